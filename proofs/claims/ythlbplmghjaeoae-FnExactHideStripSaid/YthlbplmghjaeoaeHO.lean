/- Strips: lists of mines and their numbers, by the model. -/
import Derived.Test.YthlbplmghjaeoaeH3
import Derived.Laws.CopyOwn
import Derived.Deep.DeepCutAuto
import Derived.Deep.QuietTactic
import Derived.BigQuiet
namespace Go.Proofs.Ythlbplmghjaeoae
open Go.RowKit

theorem mlB_ascii {c : UInt8} (h : mlB c = true) : c.toNat < 128 := by
  unfold mlB at h
  simp at h
  rcases h with h | h <;> rw [h] <;> decide
theorem ml_facts (c : UInt8) : (mlB c = true → ((c.toNat : Int) == 46) = true ∨ (((c.toNat : Int) == 46) = false ∧ ((c.toNat : Int) == 42) = true)) ∧ (mlB c = false → ((c.toNat : Int) == 46) = false ∧ ((c.toNat : Int) == 42) = false) := by
  have hx : ∀ n : Fin 256, mlB (UInt8.ofNat n.val) = ((((UInt8.ofNat n.val).toNat : Int) == 46) || (((UInt8.ofNat n.val).toNat : Int) == 42)) := by decide +kernel
  have h : mlB c = (((c.toNat : Int) == 46) || ((c.toNat : Int) == 42)) := by
    have := hx ⟨c.toNat, c.toNat_lt⟩
    simpa using this
  rw [h]
  cases h1 : ((c.toNat : Int) == 46) <;> cases h2 : ((c.toNat : Int) == 42) <;> simp

set_option maxRecDepth 100000 in
set_option maxHeartbeats 3200000 in
theorem stList_any (l : List UInt8) (w : World) (hl : l.length ≤ 1048576) :
    Calls Try.prog 45 #[.string ⟨l.toArray⟩] w fun e w' => e = .returned (.bool (mlM l)) ∧ Below w.heap.size w w' := by
  by_cases hin : (1 : Int) ≤ (l.length : Int) ∧ (l.length : Int) ≤ 40
  · have hyes := fun w => l1In_yes (l.length : Int) 1 40 w hin
    have HY := Lib.hid hyes
    have HR : Hid (mlM l = l.all mlB) := by rw [Hid, mlM, decide_eq_true (by omega), decide_eq_true (by omega)]; rfl
    clear hyes
    go_enter Try.func45, Try.ntmps45
    go_wp2_with fail
    refine (HY.out _).mono ?_
    rintro e w1 ⟨rfl, rfl⟩
    go_wp2_with fail
    have hI : (w.iter ⟨l.toArray⟩ 0).heap[w.heap.size]? = some (.stringIter ⟨l.toArray⟩ 0) := World.iter_heap w _ _
    have hb2 : Below w.heap.size w (w.iter ⟨l.toArray⟩ 0) := (Below.refl _ _).alloc (Nat.le_refl _) _
    generalize w.iter ⟨l.toArray⟩ 0 = w2 at *
    generalize hII : w.heap.size = I at *
    have HII := Lib.hid hII
    clear hII
    go_loopw [3] (fun _ wr => ∃ k : Nat, k ≤ l.length ∧ Hid (wr.heap[I]? = some (.stringIter ⟨l.toArray⟩ k)) ∧ Hid (∀ c ∈ l.take k, mlB c = true) ∧ Below I w2 wr) (fun _ wr => l.length - wr.iterPos I)
    case atStart => exact ⟨0, Nat.zero_le _, hI, Lib.hid (fun c hc => by simp at hc), Below.refl _ _⟩
    case round =>
      obtain ⟨k, hk, hIr, hT, hb⟩ := hrel
      have hIlt := block_lt hIr.out
      by_cases hlt : k < l.length
      · have hst := ml_facts l[k]
        have HNO := Lib.hid (all_no (p := mlB) hlt)
        cases hcc : mlB l[k] with
        | true =>
          have hasc := mlB_ascii hcc
          have hnx := fun ty => Lib.run_next_ascii_at (P := Try.prog) wr I ⟨l.toArray⟩ k ty hIr.out (by simpa [ByteArray.size] using hlt) (by simpa using hasc)
          have hpos := Lib.hid (iterPos_at hIr.out)
          have i1 := iterAt_at hIlt ⟨l.toArray⟩ (k + 1)
          have i2 := iterAt_below wr I ⟨l.toArray⟩ (k + 1)
          have HS2 := Lib.hid (all_take_snoc mlB l k hlt hT.out hcc)
          rcases hst.1 hcc with h46 | ⟨h46, h42⟩
          · have n46 : ((l[k].toNat : Int) != 46) = !((l[k].toNat : Int) == 46) := rfl
            rw [h46] at n46
            simp only [Bool.not_true] at n46
            clear hst hcc hasc
            go_wp2_with fail
            clear hnx
            generalize wr.iterAt I ⟨l.toArray⟩ (k + 1) = wi at *
            have ip := Lib.hid (iterPos_at i1)
            have I1 := Lib.hid i1
            clear i1
            go_roundw
            case rel => exact ⟨k + 1, by omega, I1, HS2, hb.trans i2⟩
            case measure => rw [hpos.out, ip.out]; omega
          · have n46 : ((l[k].toNat : Int) != 46) = !((l[k].toNat : Int) == 46) := rfl
            rw [h46] at n46
            have n42 : ((l[k].toNat : Int) != 42) = !((l[k].toNat : Int) == 42) := rfl
            rw [h42] at n42
            simp only [Bool.not_true, Bool.not_false] at n46 n42
            clear hst hcc hasc
            go_wp2_with fail
            clear hnx
            generalize wr.iterAt I ⟨l.toArray⟩ (k + 1) = wi at *
            have ip := Lib.hid (iterPos_at i1)
            have I1 := Lib.hid i1
            clear i1
            go_roundw
            case rel => exact ⟨k + 1, by omega, I1, HS2, hb.trans i2⟩
            case measure => rw [hpos.out, ip.out]; omega
        | false =>
          have hkb : k < (ByteArray.mk l.toArray).size := by simpa [ByteArray.size] using hlt
          have hnx := fun ty => Lib.run_next_any_at (P := Try.prog) wr I ⟨l.toArray⟩ k ty hIr.out hkb
          have HN2 := Lib.hid (HNO.out hcc)
          have i2 := iterAt_below wr I ⟨l.toArray⟩ (k + (Utf8.decode ⟨l.toArray⟩ k).2)
          generalize (Utf8.decode ⟨l.toArray⟩ k).1 = rn at *
          generalize (Utf8.decode ⟨l.toArray⟩ k).2 = rw2 at *
          obtain ⟨h46, h42⟩ := hst.2 hcc
          have n46 : ((l[k].toNat : Int) != 46) = !((l[k].toNat : Int) == 46) := rfl
          rw [h46] at n46
          have n42 : ((l[k].toNat : Int) != 42) = !((l[k].toNat : Int) == 42) := rfl
          rw [h42] at n42
          simp only [Bool.not_false] at n46 n42
          clear hst hcc
          go_wp2_with fail
          go_ret
          exact ⟨by rw [HR.out, HN2.out]; rfl, by rw [HII.out]; exact hb2.trans (hb.trans i2)⟩
      · obtain rfl : k = l.length := by omega
        have hnx := fun ty => Lib.run_next_end_at (P := Try.prog) wr I ⟨l.toArray⟩ l.length ty hIr.out (by simp [ByteArray.size])
        have HT := Lib.hid hT.out
        have hall : Hid (l.all mlB = true) := by
          rw [Hid, List.all_eq_true]
          intro c hc
          exact HT.out c (by rw [List.take_length]; exact hc)
        go_wp2_with fail
        go_ret
        exact ⟨by rw [HR.out, hall.out]; rfl, by rw [HII.out]; exact hb2.trans hb⟩
  · have hno := fun w => l1In_no (l.length : Int) 1 40 w hin
    have HNO := Lib.hid hno
    have HR : Hid (mlM l = false) := by
      rw [Hid, mlM]
      by_cases h1 : 1 ≤ l.length
      · rw [decide_eq_false (p := l.length ≤ 40) (by omega)]; simp
      · rw [decide_eq_false h1]; rfl
    clear hno hin
    go_enter Try.func45, Try.ntmps45
    go_wp2_with fail
    refine (HNO.out _).mono ?_
    rintro e w1 ⟨rfl, rfl⟩
    go_wp2_with fail
    go_ret
    exact ⟨by rw [HR.out]; rfl, Below.refl _ _⟩

/-- How many neighbours of a cell have a mine. -/
def nmT (b : List UInt8) (i : Nat) : Nat := (if 0 < i then (b.getD (i - 1) 0 == 42).toNat else 0) + (b.getD (i + 1) 0 == 42).toNat
theorem nmT_le (b : List UInt8) (i : Nat) : nmT b i ≤ 2 := by
  unfold nmT
  have h1 := Bool.toNat_le (b.getD (i - 1) 0 == 42)
  have h2 := Bool.toNat_le (b.getD (i + 1) 0 == 42)
  split <;> omega
theorem mine_int (c : UInt8) : ((c.toNat : Int) == 42) = (c == 42) := by
  have hx : ∀ n : Fin 256, (((UInt8.ofNat n.val).toNat : Int) == 42) = (UInt8.ofNat n.val == 42) := by decide +kernel
  have := hx ⟨c.toNat, c.toNat_lt⟩
  simpa using this
set_option maxRecDepth 100000 in
set_option maxHeartbeats 3200000 in
theorem stNumber_any (b : List UInt8) (i : Nat) (w : World) (hi : i < b.length) (hb : b.length ≤ 1048576) :
    Calls Try.prog 48 #[.string ⟨b.toArray⟩, .int .i64 (i : Nat)] w fun e w' => e = .returned (.int .i64 (nmT b i : Nat)) ∧ w' = w := by
  have hN : Hid (nmT b i = (if 0 < i then (b.getD (i - 1) 0 == 42).toNat else 0) + (b.getD (i + 1) 0 == 42).toNat) := rfl
  have hget : ∀ k (h : k < b.length), b.getD k 0 = b[k] := fun k h => by simp [List.getD, h]
  have hbig : ∀ k, ¬ k < b.length → b.getD k 0 = 0 := fun k h => by rw [List.getD, List.getElem?_eq_none (by omega)]; rfl
  cases hi0 : i with
  | zero =>
    subst hi0
    have hN2 : Hid (nmT b 0 = (b.getD 1 0 == 42).toNat) := by rw [Hid, hN.out]; simp
    by_cases hlt : 1 < b.length
    · have hlz : (1 : Int) < (b.length : Int) := by omega
      have hm2 := mine_int b[1]
      rw [hget 1 hlt] at hN2
      cases hc : (b[1] == 42)
      all_goals
        rw [hc] at hm2
        have HR := hN2.out
        rw [hc] at HR
        have HR2 := Lib.hid HR
        clear HR hc hN hN2 hget hbig
        go_enter Try.func48, Try.ntmps48
        go_wp2_with fail
        go_ret
        exact ⟨by rw [HR2.out]; rfl, rfl⟩
    · have hlz : ¬ (1 : Int) < (b.length : Int) := by omega
      have HR : Hid (nmT b 0 = 0) := by rw [Hid, hN2.out, hbig 1 hlt]; rfl
      clear hN hN2 hget hbig
      go_enter Try.func48, Try.ntmps48
      go_wp2_with fail
      go_ret
      exact ⟨by rw [HR.out]; rfl, rfl⟩
  | succ p =>
    subst hi0
    have hN2 : Hid (nmT b (p + 1) = (b.getD p 0 == 42).toNat + (b.getD (p + 2) 0 == 42).toNat) := by rw [Hid, hN.out, if_pos (by omega)]; rfl
    have hp : p < b.length := by omega
    have hgz : (0 : Int) < ((p + 1 : Nat) : Int) := by omega
    have hsz : ((p + 1 : Nat) : Int) - 1 = (p : Int) := by omega
    have hm1 := mine_int b[p]
    obtain ⟨P, hP⟩ : ∃ P, P = p + 1 := ⟨_, rfl⟩
    rw [← hP] at hgz hsz hN2 ⊢
    rw [show p + 2 = P + 1 by omega, hget p hp] at hN2
    by_cases hlt : P + 1 < b.length
    · have hlz : (P : Int) + 1 < (b.length : Int) := by omega
      have hm2 := mine_int b[P + 1]
      rw [hget _ hlt] at hN2
      cases h1 : (b[p] == 42) <;> cases h2 : (b[P + 1] == 42)
      all_goals
        rw [h1] at hm1
        rw [h2] at hm2
        have HR := hN2.out
        rw [h1, h2] at HR
        have HR2 := Lib.hid HR
        clear HR h1 h2 hN hN2 hP hget hbig
        go_enter Try.func48, Try.ntmps48
        go_wp2_with fail
        go_ret
        exact ⟨by rw [HR2.out]; rfl, rfl⟩
    · have hlz : ¬ (P : Int) + 1 < (b.length : Int) := by omega
      have h0 := hbig (P + 1) hlt
      cases h1 : (b[p] == 42)
      all_goals
        rw [h1] at hm1
        have HR := hN2.out
        rw [h1, h0] at HR
        have HR2 := Lib.hid HR
        clear HR h1 h0 hN hN2 hP hbig hget
        go_enter Try.func48, Try.ntmps48
        go_wp2_with fail
        go_ret
        exact ⟨by rw [HR2.out]; rfl, rfl⟩

/-- Whether a cell of a strip tells of a list. -/
def ftC (s b : List UInt8) (i : Nat) : Bool := s.getD i 0 == 63 || (!(b.getD i 0 == 42) && (48 + nmT b i == (s.getD i 0).toNat))
def ftM (s b : List UInt8) : Bool := (List.range s.length).all (ftC s b)
theorem ft_no {s b : List UInt8} {k : Nat} (h : k < s.length) (h2 : ftC s b k = false) : ftM s b = false := by
  rw [ftM, List.all_eq_false]
  exact ⟨k, List.mem_range.2 h, by simp [h2]⟩
theorem ft_yes {s b : List UInt8} (h : ∀ j, j < s.length → ftC s b j = true) : ftM s b = true := by
  rw [ftM, List.all_eq_true]
  exact fun j hj => h j (List.mem_range.1 hj)
theorem open_int (c : UInt8) : ((c.toNat : Int) == 63) = (c == 63) := by
  have hx : ∀ n : Fin 256, (((UInt8.ofNat n.val).toNat : Int) == 63) = (UInt8.ofNat n.val == 63) := by decide +kernel
  have := hx ⟨c.toNat, c.toNat_lt⟩
  simpa using this
set_option maxRecDepth 100000 in
set_option maxHeartbeats 6400000 in
theorem stFits_any (s b : List UInt8) (hg : stM s = true) (hbl : b.length = s.length) (w : World) :
    Calls Try.prog 55 #[.string ⟨s.toArray⟩, .string ⟨b.toArray⟩] w fun e w' => e = .returned (.bool (ftM s b)) ∧ Below w.heap.size w w' := by
  obtain ⟨hn1, hn40, hst⟩ := stM_facts hg
  have HST := Lib.hid hst
  have HBL := Lib.hid hbl
  clear hst hg
  go_enter Try.func55, Try.ntmps55
  go_wp2_with fail
  have hI : (w.iter ⟨s.toArray⟩ 0).heap[w.heap.size]? = some (.stringIter ⟨s.toArray⟩ 0) := World.iter_heap w _ _
  have hb2 : Below w.heap.size w (w.iter ⟨s.toArray⟩ 0) := (Below.refl _ _).alloc (Nat.le_refl _) _
  generalize w.iter ⟨s.toArray⟩ 0 = w2 at *
  generalize hII : w.heap.size = I at *
  have HII := Lib.hid hII
  clear hII
  go_loopw [5] (fun _ wr => ∃ k : Nat, k ≤ s.length ∧ Hid (wr.heap[I]? = some (.stringIter ⟨s.toArray⟩ k)) ∧ Hid (∀ j, j < k → ftC s b j = true) ∧ Below I w2 wr) (fun _ wr => s.length - wr.iterPos I)
  case atStart => exact ⟨0, Nat.zero_le _, hI, Lib.hid (fun j hj => absurd hj (by omega)), Below.refl _ _⟩
  case round =>
    obtain ⟨k, hk, hIr, hT, hb⟩ := hrel
    have hIlt := block_lt hIr.out
    by_cases hlt : k < s.length
    · have hcs := HST.out _ (List.getElem_mem hlt)
      have hasc := stB_ascii hcs
      have hltb : k < b.length := by rw [hbl]; exact hlt
      have hnx := fun ty => Lib.run_next_ascii_at (P := Try.prog) wr I ⟨s.toArray⟩ k ty hIr.out (by simpa [ByteArray.size] using hlt) (by simpa using hasc)
      have hpos := Lib.hid (iterPos_at hIr.out)
      have i1 := iterAt_at hIlt ⟨s.toArray⟩ (k + 1)
      have i2 := iterAt_below wr I ⟨s.toArray⟩ (k + 1)
      have hft : Hid (ftC s b k = (s[k] == 63 || (!(b[k] == 42) && (48 + nmT b k == s[k].toNat)))) := by
        rw [Hid, ftC, show s.getD k 0 = s[k] by simp [List.getD, hlt], show b.getD k 0 = b[k] by simp [List.getD, hltb]]
      have HYES := Lib.hid (show ftC s b k = true → ∀ j, j < k + 1 → ftC s b j = true from fun h j hj => by
        by_cases e : j = k
        · rw [e]; exact h
        · exact hT.out j (by omega))
      have HNO := Lib.hid (ft_no (b := b) hlt)
      have ho := open_int s[k]
      have n63 : ((s[k].toNat : Int) != 63) = !((s[k].toNat : Int) == 63) := rfl
      have hm := mine_int b[k]
      have hnm := fun w => stNumber_any b k w hltb (by omega)
      have HNM := Lib.hid hnm
      clear hnm
      by_cases h63 : (s[k] == 63) = true
      · rw [h63] at ho
        rw [ho] at n63
        have HT2 := Lib.hid (HYES.out (by rw [hft.out, h63]; rfl))
        simp only [Bool.not_true] at n63
        clear h63 hcs hasc hm
        go_upto_region 4 with fail
        clear hnx
        generalize wr.iterAt I ⟨s.toArray⟩ (k + 1) = wi at *
        have I1 := Lib.hid i1
        clear i1
        go_quiet (fail)
        have hb6 := below_drewN (hb.trans i2) nq
        have I2 : Hid ((wi.drewN nq).heap[I]? = some (.stringIter ⟨s.toArray⟩ (k + 1))) := I1.out
        generalize wi.drewN nq = w6 at *
        go_wp2_with fail
        have ip := Lib.hid (iterPos_at I2.out)
        go_roundw
        case rel => exact ⟨k + 1, by omega, I2, HT2, hb6⟩
        case measure => rw [hpos.out, ip.out]; omega
      · obtain ⟨d, hd2, hd⟩ : ∃ d : Nat, d ≤ 2 ∧ s[k].toNat = 48 + d := by
          rcases (st_facts s[k]).1 hcs with h | ⟨_, h1, h2⟩
          · rw [ho] at h; exact absurd h h63
          · exact ⟨s[k].toNat - 48, by omega, by omega⟩
        have h63' : (s[k] == 63) = false := by simpa using h63
        rw [h63'] at ho
        rw [ho] at n63
        have hft2 : Hid (ftC s b k = (!(b[k] == 42) && (nmT b k == d))) := by
          rw [Hid, hft.out, h63', hd, Bool.false_or]
          congr 1
          rw [Bool.eq_iff_iff]
          simp only [beq_iff_eq]
          omega
        have hsd : (s[k].toNat : Int) - 48 = (d : Int) := by omega
        simp only [Bool.not_false] at n63
        cases hbm : (b[k] == 42) with
        | true =>
          rw [hbm] at hm
          have HR : Hid (ftM s b = false) := HNO.out (by rw [hft2.out, hbm]; rfl)
          clear h63 h63' hcs hasc hbm hd ho
          go_upto_region 4 with fail
          clear hnx
          generalize wr.iterAt I ⟨s.toArray⟩ (k + 1) = wi at *
          go_quiet (fail)
          have hb6 := below_drewN (hb.trans i2) nq
          generalize wi.drewN nq = w6 at *
          go_wp2_with fail
          go_ret
          exact ⟨by rw [HR.out]; rfl, by rw [HII.out]; exact hb2.trans hb6⟩
        | false =>
          rw [hbm] at hm
          have hnl := nmT_le b k
          have hcmp : Hid (ftC s b k = (nmT b k == d)) := by rw [Hid, hft2.out, hbm]; rfl
          obtain ⟨N, hN⟩ : ∃ N, N = nmT b k := ⟨_, rfl⟩
          rw [← hN] at hcmp HNM hnl
          clear hN hft hft2
          by_cases hnd : N = d
          · have HT2 := Lib.hid (HYES.out (by rw [hcmp.out, hnd]; simp))
            subst hnd
            clear h63 h63' hcs hasc hbm hd ho
            go_upto_region 4 with fail
            clear hnx
            generalize wr.iterAt I ⟨s.toArray⟩ (k + 1) = wi at *
            have I1 := Lib.hid i1
            clear i1
            go_quiet ((go_at_call 48; exact Calls.quiet_of_same (HNM.out _)))
            have hb6 := below_drewN (hb.trans i2) nq
            have I2 : Hid ((wi.drewN nq).heap[I]? = some (.stringIter ⟨s.toArray⟩ (k + 1))) := I1.out
            generalize wi.drewN nq = w6 at *
            go_wp2_with fail
            have ip := Lib.hid (iterPos_at I2.out)
            go_roundw
            case rel => exact ⟨k + 1, by omega, I2, HT2, hb6⟩
            case measure => rw [hpos.out, ip.out]; omega
          · have HR : Hid (ftM s b = false) := HNO.out (by rw [hcmp.out]; simpa using hnd)
            have hne : ((N : Int) != (d : Int)) = true := by rw [bne_iff_ne]; omega
            clear h63 h63' hcs hasc hbm hd ho
            go_upto_region 4 with fail
            clear hnx
            generalize wr.iterAt I ⟨s.toArray⟩ (k + 1) = wi at *
            go_quiet ((go_at_call 48; exact Calls.quiet_of_same (HNM.out _)))
            have hb6 := below_drewN (hb.trans i2) nq
            generalize wi.drewN nq = w6 at *
            go_wp2_with fail
            go_ret
            exact ⟨by rw [HR.out]; rfl, by rw [HII.out]; exact hb2.trans hb6⟩
    · obtain rfl : k = s.length := by omega
      have hnx := fun ty => Lib.run_next_end_at (P := Try.prog) wr I ⟨s.toArray⟩ s.length ty hIr.out (by simp [ByteArray.size])
      have HR := Lib.hid (ft_yes hT.out)
      go_wp2_with fail
      go_ret
      exact ⟨by rw [HR.out]; rfl, by rw [HII.out]; exact hb2.trans hb⟩
end Go.Proofs.Ythlbplmghjaeoae
