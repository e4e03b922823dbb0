/- Strips: which texts are strips and lists of mines, by the model. -/
import Derived.Test.YthlbplmghjaeoaeH4
import Derived.Test.YthlbplmghjaeoaeGN1
import Derived.Test.YthlbplmghjaeoaeS1
import Derived.Outline
namespace Go.Proofs.Ythlbplmghjaeoae
open Go.RowKit

theorem ltB (a : UInt8) (n : Nat) : (decide ((a.toNat : Int) < (n : Int))) = decide (a.toNat < n) := by
  rw [decide_eq_decide]; omega
/-- Is a text a list of mines? -/
def mlB (c : UInt8) : Bool := c == 46 || c == 42
def mlM (s : List UInt8) : Bool := decide (1 ≤ s.length) && (decide (s.length ≤ 40) && s.all mlB)
theorem all_take_snoc (p : UInt8 → Bool) (l : List UInt8) (k : Nat) (h : k < l.length) (h1 : ∀ c ∈ l.take k, p c = true) (h2 : p l[k] = true) : ∀ c ∈ l.take (k + 1), p c = true := by
  rw [List.take_succ_eq_append_getElem h]
  intro c hc
  rcases List.mem_append.1 hc with q | q
  · exact h1 c q
  · simp at q; rw [q]; exact h2
theorem all_no {p : UInt8 → Bool} {l : List UInt8} {k : Nat} (h : k < l.length) (h2 : p l[k] = false) : l.all p = false := by
  rw [List.all_eq_false]
  exact ⟨l[k], List.getElem_mem h, by simp [h2]⟩
theorem stB_ascii {c : UInt8} (h : stB c = true) : c.toNat < 128 := by rcases stB_cases h with e | e | e | e <;> rw [e] <;> decide
theorem stB_int (c : UInt8) : stB c = (((c.toNat : Int) == 63) || (!decide ((c.toNat : Int) < 48) && !decide ((50 : Int) < (c.toNat : Int)))) := by
  have hx : ∀ n : Fin 256, stB (UInt8.ofNat n.val) = ((((UInt8.ofNat n.val).toNat : Int) == 63) || (!decide (((UInt8.ofNat n.val).toNat : Int) < 48) && !decide ((50 : Int) < ((UInt8.ofNat n.val).toNat : Int)))) := by decide +kernel
  have := hx ⟨c.toNat, c.toNat_lt⟩
  simpa using this

theorem st_facts (c : UInt8) : (stB c = true → ((c.toNat : Int) == 63) = true ∨ (((c.toNat : Int) == 63) = false ∧ ¬ (c.toNat : Int) < 48 ∧ ¬ (50 : Int) < (c.toNat : Int))) ∧ (stB c = false → ((c.toNat : Int) == 63) = false ∧ ((c.toNat : Int) < 48 ∨ (¬ (c.toNat : Int) < 48 ∧ (50 : Int) < (c.toNat : Int)))) := by
  have h := stB_int c
  generalize (c.toNat : Int) = n at *
  constructor
  · intro hb
    rw [hb] at h
    by_cases h63 : (n == 63) = true
    · exact .inl h63
    · simp [h63] at h
      exact .inr ⟨by simpa using h63, by omega, by omega⟩
  · intro hb
    rw [hb] at h
    have := h.symm
    simp at this
    refine ⟨by simpa using this.1, ?_⟩
    by_cases h48 : n < 48
    · exact .inl h48
    · exact .inr ⟨h48, by omega⟩
set_option maxRecDepth 100000 in
set_option maxHeartbeats 3200000 in
theorem stGood_any (l : List UInt8) (w : World) (hl : l.length ≤ 1048576) :
    Calls Try.prog 72 #[.string ⟨l.toArray⟩] w fun e w' => e = .returned (.bool (stM l)) ∧ Below w.heap.size w w' := by
  by_cases hin : (1 : Int) ≤ (l.length : Int) ∧ (l.length : Int) ≤ 40
  · have hyes := fun w => l1In_yes (l.length : Int) 1 40 w hin
    have HY := Lib.hid hyes
    have HR : Hid (stM l = l.all stB) := by rw [Hid, stM, decide_eq_true (by omega), decide_eq_true (by omega)]; rfl
    clear hyes
    go_enter Try.func72, Try.ntmps72
    go_wp2_with fail
    refine (HY.out _).mono ?_
    rintro e w1 ⟨rfl, rfl⟩
    go_wp2_with fail
    have hI : (w.iter ⟨l.toArray⟩ 0).heap[w.heap.size]? = some (.stringIter ⟨l.toArray⟩ 0) := World.iter_heap w _ _
    have hb2 : Below w.heap.size w (w.iter ⟨l.toArray⟩ 0) := (Below.refl _ _).alloc (Nat.le_refl _) _
    generalize w.iter ⟨l.toArray⟩ 0 = w2 at *
    generalize hII : w.heap.size = I at *
    have HII := Lib.hid hII
    clear hII
    go_loopw [3] (fun _ wr => ∃ k : Nat, k ≤ l.length ∧ Hid (wr.heap[I]? = some (.stringIter ⟨l.toArray⟩ k)) ∧ Hid (∀ c ∈ l.take k, stB c = true) ∧ Below I w2 wr) (fun _ wr => l.length - wr.iterPos I)
    case atStart => exact ⟨0, Nat.zero_le _, hI, Lib.hid (fun c hc => by simp at hc), Below.refl _ _⟩
    case round =>
      obtain ⟨k, hk, hIr, hT, hb⟩ := hrel
      have hIlt := block_lt hIr.out
      by_cases hlt : k < l.length
      · have hst := st_facts l[k]
        have HNO := Lib.hid (all_no (p := stB) hlt)
        cases hcc : stB l[k] with
        | true =>
          have hasc := stB_ascii hcc
          have hnx := fun ty => Lib.run_next_ascii_at (P := Try.prog) wr I ⟨l.toArray⟩ k ty hIr.out (by simpa [ByteArray.size] using hlt) (by simpa using hasc)
          have hpos := Lib.hid (iterPos_at hIr.out)
          have i1 := iterAt_at hIlt ⟨l.toArray⟩ (k + 1)
          have i2 := iterAt_below wr I ⟨l.toArray⟩ (k + 1)
          have HS2 := Lib.hid (all_take_snoc stB l k hlt hT.out hcc)
          rcases hst.1 hcc with h63 | ⟨h63, h48, h50⟩
          all_goals
            have h63n : ((l[k].toNat : Int) != 63) = !((l[k].toNat : Int) == 63) := rfl
            rw [h63] at h63n
            simp only [Bool.not_true, Bool.not_false] at h63n
            clear hst hcc hasc
            go_wp2_with fail
            clear hnx
            generalize wr.iterAt I ⟨l.toArray⟩ (k + 1) = wi at *
            have ip := Lib.hid (iterPos_at i1)
            have I1 := Lib.hid i1
            clear i1
            go_roundw
            case rel => exact ⟨k + 1, by omega, I1, HS2, hb.trans i2⟩
            case measure => rw [hpos.out, ip.out]; omega
        | false =>
          have hkb : k < (ByteArray.mk l.toArray).size := by simpa [ByteArray.size] using hlt
          have hnx := fun ty => Lib.run_next_any_at (P := Try.prog) wr I ⟨l.toArray⟩ k ty hIr.out hkb
          have HN2 := Lib.hid (HNO.out hcc)
          have i2 := iterAt_below wr I ⟨l.toArray⟩ (k + (Utf8.decode ⟨l.toArray⟩ k).2)
          generalize (Utf8.decode ⟨l.toArray⟩ k).1 = rn at *
          generalize (Utf8.decode ⟨l.toArray⟩ k).2 = rw2 at *
          obtain ⟨h63, hor⟩ := hst.2 hcc
          rcases hor with h48 | ⟨h48, h50⟩
          all_goals
            have h63n : ((l[k].toNat : Int) != 63) = !((l[k].toNat : Int) == 63) := rfl
            rw [h63] at h63n
            simp only [Bool.not_true, Bool.not_false] at h63n
            clear hst hcc
            go_wp2_with fail
            go_ret
            exact ⟨by rw [HR.out, HN2.out]; rfl, by rw [HII.out]; exact hb2.trans (hb.trans i2)⟩
      · obtain rfl : k = l.length := by omega
        have hnx := fun ty => Lib.run_next_end_at (P := Try.prog) wr I ⟨l.toArray⟩ l.length ty hIr.out (by simp [ByteArray.size])
        have HT := Lib.hid hT.out
        have hall : Hid (l.all stB = true) := by
          rw [Hid, List.all_eq_true]
          intro c hc
          exact HT.out c (by rw [List.take_length]; exact hc)
        go_wp2_with fail
        go_ret
        exact ⟨by rw [HR.out, hall.out]; rfl, by rw [HII.out]; exact hb2.trans hb⟩
  · have hno := fun w => l1In_no (l.length : Int) 1 40 w hin
    have HNO := Lib.hid hno
    have HR : Hid (stM l = false) := by
      rw [Hid, stM]
      by_cases h1 : 1 ≤ l.length
      · rw [decide_eq_false (p := l.length ≤ 40) (by omega)]; simp
      · rw [decide_eq_false h1]; rfl
    clear hno hin
    go_enter Try.func72, Try.ntmps72
    go_wp2_with fail
    refine (HNO.out _).mono ?_
    rintro e w1 ⟨rfl, rfl⟩
    go_wp2_with fail
    go_ret
    exact ⟨by rw [HR.out]; rfl, Below.refl _ _⟩

end Go.Proofs.Ythlbplmghjaeoae
