/- Strips: whether a list fits, by the program. -/
import Derived.Test.YthlbplmghjaeoaeHW
import Derived.Test.YthlbplmghjaeoaeHP
import Derived.Deep.RegionHeld3
namespace Go.Proofs.Ythlbplmghjaeoae
open Go.RowKit

/-- What is seen of a list in which some cells are hidden. -/
def hiC (b : List UInt8) (hid : Nat → Bool) (k : Nat) : UInt8 := if b.getD k 0 == 42 || hid k then 63 else digB (nmT b k)
def hiM (b : List UInt8) (hid : Nat → Bool) : List UInt8 := (List.range b.length).map (hiC b hid)
@[simp] theorem hiM_length (b : List UInt8) (hid : Nat → Bool) : (hiM b hid).length = b.length := by simp [hiM]
theorem see_hi {b : List UInt8} (h40 : b.length ≤ 40) (hid : Nat → Bool) : seeM b b.length (hidO b hid) = hiM b hid := by
  refine List.map_congr_left fun k hk => ?_
  have hk' : k < b.length := by simpa using hk
  rw [seeB, hidO, freeB_at b k hk', hiC, num_row b k hk' h40, show b.getD k 0 = b[k] by simp [List.getD, hk']]
  cases b[k] == 42 <;> cases hid k <;> rfl
/-- The strip is seen just if the list fits. -/
theorem hi_fits {s b : List UInt8} (hg : stM s = true) (hbl : s.length = b.length) : (hiM b (fun k => s.getD k 0 == 63) == s) = ftM s b := by
  obtain ⟨_, _, hst⟩ := stM_facts hg
  have hcell : ∀ k, k < s.length → (hiC b (fun k => s.getD k 0 == 63) k = s.getD k 0 ↔ ftC s b k = true) := by
    intro k hk
    have hsk : s.getD k 0 = s[k] := by simp [List.getD, hk]
    have hc := stB_cases (hst _ (List.getElem_mem hk))
    have hn := nmT_le b k
    have hd := digB_nat (nmT b k) (by omega)
    rw [hiC, ftC, hsk]
    generalize nmT b k = n at *
    generalize s[k] = c at *
    cases hb : (b.getD k 0 == 42) with
    | true =>
      by_cases h63 : c = 63
      · subst h63; simp
      · have : (c == 63) = false := by simpa using h63
        simp [this, Ne.symm h63]
    | false =>
      by_cases h63 : c = 63
      · subst h63; simp
      · have : (c == 63) = false := by simpa using h63
        simp only [this, Bool.or_false, Bool.false_eq_true, if_false, Bool.false_or, Bool.not_false, Bool.true_and, beq_iff_eq]
        constructor
        · intro e
          rw [← e]
          omega
        · intro e
          refine UInt8.toNat_inj.1 ?_
          omega
  generalize (fun k => s.getD k 0 == 63) = hid at hcell ⊢
  rw [Bool.eq_iff_iff, beq_iff_eq, ftM, List.all_eq_true]
  constructor
  · intro e k hk
    have hk' : k < s.length := by simpa using hk
    refine (hcell k hk').1 ?_
    have h1 : (hiM b hid).getD k 0 = s.getD k 0 := by rw [e]
    rw [← h1]
    simp [hiM, List.getD, show k < b.length by omega]
  · intro h
    refine List.ext_getElem (by rw [hiM_length]; exact hbl.symm) (fun k h1 h2 => ?_)
    have h3 := (hcell k h2).2 (h k (by simpa using h2))
    rw [show s.getD k 0 = s[k] by simp [List.getD, h2]] at h3
    simp [hiM, h3]

theorem idxStrH (l : List UInt8) (k : Nat) (hk : k < l.length) (w : World) : (Instr.index 9 (.string ⟨l.toArray⟩) (.int .i64 k)).run Try.prog w = .ok (.int .u8 (l[k].toNat : Int)) w := by
  rw [run_index_string _ _ _ _ _ Try.underlying9]
  have h1 : (0 : Int) ≤ (k : Int) ∧ (k : Int) < ((ByteArray.mk l.toArray).size : Int) := by
    have e : (ByteArray.mk l.toArray).size = l.length := by simp [ByteArray.size]
    rw [e]; omega
  rw [dif_pos h1]
  rfl
theorem enters_doesFit1 (args : Array Value) (w' : World) : (callFunc 57 args).run Try.prog w' = .ok (.enter 57 args) w' := by
  go_simp
set_option maxRecDepth 100000 in
theorem doesFit1_any (s : List UInt8) (bx k : Nat) (w : World) (hB : w.heap[bx]? = some (.cells #[.string ⟨s.toArray⟩] 9 (0, 0))) (hk : k < s.length) (_hs : s.length ≤ 1048576) :
    Calls Try.prog 57 #[.int .i64 (k : Int), .pointer (some ⟨bx, 0, none⟩)] w fun e w' => e = .returned (.bool (s.getD k 0 == 63)) ∧ Below w.heap.size w w' := by
  have hc0 := cell_of_block hB 0
  simp at hc0
  have hix := fun w => idxStrH s k hk w
  have ho := open_int s[k]
  have hv : Hid ((s.getD k 0 == 63) = (s[k] == 63)) := by rw [Hid, show s.getD k 0 = s[k] by simp [List.getD, hk]]
  generalize hq : (s[k] == 63) = q at *
  clear hq
  go_enter Try.func57, Try.ntmps57
  go_wp2_with fail
  go_ret
  exact ⟨by rw [hv.out]; rfl, Below.refl _ _⟩
set_option maxRecDepth 100000 in
set_option maxHeartbeats 1600000 in
theorem iDoesFitStrip_any (s b : List UInt8) (w : World) (hs : s.length ≤ 1048576) (hb : b.length ≤ 1048576) :
    Calls Try.prog 25 #[.string ⟨s.toArray⟩, .string ⟨b.toArray⟩] w fun e w' => e = .returned (.tuple #[.bool (dfV s b), .bool (dfB s b)]) ∧ Below w.heap.size w w' := by
  have hst := fun w => iIsStrip_any s w hs
  have HST := Lib.hid hst
  have HV : Hid (dfV s b = (dfB s b && ftM s b)) := rfl
  have HD : Hid (dfB s b = (stM s && (mlM b && decide (s.length = b.length)))) := rfl
  have hA0 : (w.alloc (.cells #[.string ⟨s.toArray⟩] 9)).heap[w.heap.size]? = some (.cells #[.string ⟨s.toArray⟩] 9 (0, 0)) := heap_alloc_new w _
  have hb0 : Below w.heap.size w (w.alloc (.cells #[.string ⟨s.toArray⟩] 9)) := (Below.refl _ _).alloc (Nat.le_refl _) _
  clear hst
  cases h1 : mlM b with
  | false =>
    have hrd := fun w => readMineList_no b w hb h1
    have HRD := Lib.hid hrd
    have HB : Hid (dfB s b = false) := by rw [Hid, HD.out, h1]; simp
    have HF : Hid (dfV s b = false) := by rw [Hid, HV.out, HB.out]; rfl
    rw [HB.out, HF.out]
    clear hrd h1 hA0
    go_enter Try.func25, Try.ntmps25
    go_wp2_with fail
    generalize w.alloc (.cells #[.string ⟨s.toArray⟩] 9) = w0 at *
    refine (HRD.out _).mono ?_
    rintro e w1 ⟨rfl, hb1⟩
    have hbx := hb1.alloc hb1.size (.cells #[.int .i64 0, .int .i64 0, .slice none 0 0, .bool false] 66)
    go_wp2_with fail
    go_ret2
    exact ⟨rfl, hb0.trans (hbx.mono hb0.size)⟩
  | true =>
    have hrd := fun w => readMineList_yes b w hb h1
    have HRD := Lib.hid hrd
    cases h2 : stM s with
    | false =>
      rw [h2] at HST
      have HB : Hid (dfB s b = false) := by rw [Hid, HD.out, h2]; rfl
      have HF : Hid (dfV s b = false) := by rw [Hid, HV.out, HB.out]; rfl
      rw [HB.out, HF.out]
      clear hrd h1 h2
      have hA0l := block_lt hA0
      go_enter Try.func25, Try.ntmps25
      go_wp2_with fail
      generalize w.alloc (.cells #[.string ⟨s.toArray⟩] 9) = w0 at *
      refine (HRD.out _).mono ?_
      rintro e w1 ⟨a, cap, rfl, hat, hb1⟩
      have hbx := hb1.alloc hb1.size (.cells #[.int .i64 (b.length : Nat), .int .i64 1, .slice a b.length cap, .bool false] 66)
      have hA2 := (hbx.block _ hA0l).trans hA0
      have hc0 := cell_of_block hA2 0
      simp at hc0
      go_wp2_with fail
      refine (HST.out _).mono ?_
      rintro e w3 ⟨rfl, hb3⟩
      go_wp2_with fail
      go_ret2
      exact ⟨rfl, (hb0.trans (hbx.mono hb0.size)).trans (hb3.mono (by have := hb0.size; have := hbx.size; omega))⟩
    | true =>
      rw [h2] at HST
      have hA0l := block_lt hA0
      by_cases h3 : s.length = b.length
      · have HB : Hid (dfB s b = true) := by rw [Hid, HD.out, h1, h2, decide_eq_true h3]; rfl
        have HF : Hid (dfV s b = ftM s b) := by rw [Hid, HV.out, HB.out]; rfl
        rw [HB.out, HF.out, ← hi_fits h2 h3]
        obtain ⟨hn1, hn40, _⟩ := stM_facts h2
        have hne : ((s.length : Int) != (b.length : Int)) = false := by rw [h3]; simp
        have hsee := see_hi (b := b) (by omega) (fun k => s.getD k 0 == 63)
        have hhc := fun (a : Option Addr) (cap : Nat) (w' : World) (hat : At w' a (byts b)) (hB : w'.heap[w.heap.size]? = some (.cells #[.string ⟨s.toArray⟩] 9 (0, 0))) =>
          hideCells_any b.length 1 a b cap (fun k => s.getD k 0 == 63) 57 #[] #[.pointer (some ⟨w.heap.size, 0, none⟩)] w' hat (by omega) (by omega) rfl enters_doesFit1 (fun w'' k hbl hk => doesFit1_any s w.heap.size k w'' ((hbl.block _ (block_lt hB)).trans hB) (by omega) hs)
        rw [hsee] at hhc
        have HHC := Lib.hid hhc
        clear hrd h1 h2 hsee hhc HV HD HB HF
        generalize hiM b (fun k => s.getD k 0 == 63) = see at *
        go_enter Try.func25, Try.ntmps25
        go_wp2_with fail
        generalize w.alloc (.cells #[.string ⟨s.toArray⟩] 9) = w0 at *
        refine (HRD.out _).mono ?_
        rintro e w1 ⟨a, cap, rfl, hat, hb1⟩
        have hbx := hb1.alloc hb1.size (.cells #[.int .i64 (b.length : Nat), .int .i64 1, .slice a b.length cap, .bool false] 66)
        have hA2 := (hbx.block _ hA0l).trans hA0
        have hG2 := heap_alloc_new w1 (.cells #[.int .i64 (b.length : Nat), .int .i64 1, .slice a b.length cap, .bool false] 66)
        have hat2 : At (w1.alloc (.cells #[.int .i64 (b.length : Nat), .int .i64 1, .slice a b.length cap, .bool false] 66)) a (byts b) := hat.later rfl ((Below.refl _ w1).alloc (Nat.le_refl _) _)
        have hc0 := cell_of_block hA2 0
        simp at hc0
        go_upto_region 2 with fail
        generalize w1.alloc (.cells #[.int .i64 (b.length : Nat), .int .i64 1, .slice a b.length cap, .bool false] 66) = w2 at *
        generalize w1.heap.size = G at *
        have HA2 := Lib.hid hA2
        have HG2 := Lib.hid hG2
        have HAT := Lib.hid hat2
        have hGl := block_lt hG2
        have hAl := block_lt hA2
        clear hA2 hG2 hat hat2 hA0 hb1 h3
        go_wp2_with fail
        refine (HST.out _).mono ?_
        rintro e w3 ⟨rfl, hb3⟩
        have hA3 := (hb3.block _ hAl).trans HA2.out
        have hG3 := (hb3.block _ hGl).trans HG2.out
        have hat3 : At w3 a (byts b) := HAT.out.later rfl hb3
        have hbw : Below w.heap.size w w3 := (hb0.trans (hbx.mono hb0.size)).trans (hb3.mono (by have := hb0.size; have := hbx.size; omega))
        have hc3 := cell_of_block hA3 0
        have hg0 := cell_of_block hG3 0
        have hg1 := cell_of_block hG3 1
        have hg2 := cell_of_block hG3 2
        have hg3 := cell_of_block hG3 3
        simp at hc3 hg0 hg1 hg2 hg3
        have hCall := HHC.out a cap w3.drew (hat3.drew) hA3
        have HCALL := Lib.hid hCall
        have hGl3 := block_lt hG3
        have hAl3 := block_lt hA3
        clear hCall hc0 hA3 hG3 hat3 hb3 HA2 HG2 HAT
        go_upto_region 4 with fail
        have hS : ∀ w', Below w3.drew.heap.size w3.drew w' → w'.cell? ⟨w.heap.size, 0, none⟩ = some (.string ⟨s.toArray⟩) ∧ w'.cell? ⟨G, 0, none⟩ = some (.int .i64 (b.length : Nat)) ∧ w'.cell? ⟨G, 1, none⟩ = some (.int .i64 1) ∧ w'.cell? ⟨G, 2, none⟩ = some (.slice a b.length cap) ∧ w'.cell? ⟨G, 3, none⟩ = some (.bool false) := fun w' h =>
          ⟨kept1 (w := w3.drew) hc3 h, kept1 (w := w3.drew) hg0 h, kept1 (w := w3.drew) hg1 h, kept1 (w := w3.drew) hg2 h, kept1 (w := w3.drew) hg3 h⟩
        have HS := Lib.hid hS
        have hdr : Below w3.drew.heap.size w3.drew w3.drew := Below.refl _ _
        clear hS
        go_region_held3 (fun w' => w'.cell? ⟨w.heap.size, 0, none⟩ = some (.string ⟨s.toArray⟩) ∧ w'.cell? ⟨G, 0, none⟩ = some (.int .i64 (b.length : Nat)) ∧ w'.cell? ⟨G, 1, none⟩ = some (.int .i64 1) ∧ w'.cell? ⟨G, 2, none⟩ = some (.slice a b.length cap) ∧ w'.cell? ⟨G, 3, none⟩ = some (.bool false))
          (first | with_reducible exact HS.out _ hdr | with_reducible exact HS.out _ hb4)
          ((go_at_call 51; refine (HCALL.out).mono ?_; rintro e w4 ⟨rfl, hb4⟩))
        have hb34 : Below w3.heap.size w3 w4 := ofDrew hb4
        go_wp2_with fail
        go_ret2
        exact ⟨rfl, hbw.trans (hb34.mono hbw.size)⟩
      · have HB : Hid (dfB s b = false) := by rw [Hid, HD.out, decide_eq_false h3]; simp
        have HF : Hid (dfV s b = false) := by rw [Hid, HV.out, HB.out]; rfl
        have hne : ((s.length : Int) != (b.length : Int)) = true := by rw [bne_iff_ne]; omega
        rw [HB.out, HF.out]
        clear hrd h1 h2
        go_enter Try.func25, Try.ntmps25
        go_wp2_with fail
        generalize w.alloc (.cells #[.string ⟨s.toArray⟩] 9) = w0 at *
        refine (HRD.out _).mono ?_
        rintro e w1 ⟨a, cap, rfl, hat, hb1⟩
        have hbx := hb1.alloc hb1.size (.cells #[.int .i64 (b.length : Nat), .int .i64 1, .slice a b.length cap, .bool false] 66)
        have hA2 := (hbx.block _ hA0l).trans hA0
        have hc0 := cell_of_block hA2 0
        simp at hc0
        have HA2 := Lib.hid hA2
        clear hA2 hA0 hat hb1
        go_upto_region 2 with fail
        generalize w1.alloc (.cells #[.int .i64 (b.length : Nat), .int .i64 1, .slice a b.length cap, .bool false] 66) = w2 at *
        go_wp2_with fail
        refine (HST.out _).mono ?_
        rintro e w3 ⟨rfl, hb3⟩
        have hA3 := (hb3.block _ (block_lt HA2.out)).trans HA2.out
        have hc3 := cell_of_block hA3 0
        simp at hc3
        go_wp2_with fail
        go_ret2
        exact ⟨rfl, (hb0.trans (hbx.mono hb0.size)).trans (hb3.mono (by have := hb0.size; have := hbx.size; omega))⟩
end Go.Proofs.Ythlbplmghjaeoae
