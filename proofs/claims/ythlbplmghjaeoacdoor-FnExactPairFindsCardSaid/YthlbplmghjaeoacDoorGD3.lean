/- D3, D4, D5, D6, laid as one text. -/
import Derived.Test.YthlbplmghjaeoacDoorGCV
import Derived.Test.YthlbplmghjaeoacDoorCT
import Derived.Test.YthlbplmghjaeoacDoorE3
import Derived.Outline

/- Notes: SingleFinds by the program. -/
namespace Go.Proofs.YthlbplmghjaeoacDoor
open Go.RowKit

/-- What is told of an open cell; of no open cell: nothing. -/
def ocX (cells : List UInt8) (c : Int) : Int := if opC cells c = true then c else 0
def ocR (cells : List UInt8) (W : Nat) (c : Int) : Int := if opC cells c = true then restM cells W c.toNat else 0
def ocN (cells : List UInt8) (W : Nat) (c : Int) : List Nat := if opC cells c = true then nrS cells W c.toNat 63 else []
theorem ocN_cel (cells : List UInt8) (W : Nat) (c : Int) : Cel cells.length (ocN cells W c) := by
  unfold ocN
  split
  · exact Cel.near _ _ _ _
  · exact Cel.nil _
theorem ocR_range (cells : List UInt8) (W : Nat) (c : Int) (h : cells.length ≤ 64) : -100 ≤ ocR cells W c ∧ ocR cells W c ≤ 300 := by
  unfold ocR
  split
  · exact rest_range _ _ _ h
  · omega
/-- What SingleFinds hands back. -/
def siP (l : List UInt8) (c : Int) : List Nat × List Nat := pairL [] (ocN (snC l) (snW l) c) (ocR (snC l) (snW l) c - 0)
def siOK (l : List UInt8) (c : Int) : Bool := opC (snC l) c
theorem siP_cel (l : List UInt8) (c : Int) : Cel (snC l).length (siP l c).1 ∧ Cel (snC l).length (siP l c).2 := pairL_cel _ (ocN_cel _ _ _)
theorem siP_len (l : List UInt8) (c : Int) : (siP l c).1.length ≤ 64 ∧ (siP l c).2.length ≤ 64 := ⟨Nat.le_trans (siP_cel l c).1.len (sn_le l), Nat.le_trans (siP_cel l c).2.len (sn_le l)⟩

theorem openAt_any2 (W H : Nat) (a : Option Addr) (cells : List UInt8) (cap : Nat) (c : Int) (w : World) (hat : At w a (byts cells)) (hW : 0 < cells.length → 1 ≤ W) (hn : cells.length ≤ 64) :
    Calls Tryd.prog 28 #[.agg #[.int .i64 W, .int .i64 H, .slice a cells.length cap, .bool false], .int .i64 c] w fun e w' => e = .returned (.tuple #[.agg #[.int .i64 (ocX cells c), .int .i64 (ocR cells W c), .int .u64 (maskM (ocN cells W c) : Nat)], .bool (opC cells c)]) ∧ Below w.heap.size w w' := by
  cases ho : opC cells c with
  | false =>
    have e1 : ocX cells c = 0 := by rw [ocX, ho]; rfl
    have e2 : ocR cells W c = 0 := by rw [ocR, ho]; rfl
    have e3 : ocN cells W c = [] := by rw [ocN, ho]; rfl
    rw [e1, e2, e3]
    exact openAt_no W H a cells cap c w hat hn ho
  | true =>
    rcases opC_case cells c with ⟨_, h2⟩ | ⟨k, rfl, hk, _, h2⟩
    · rw [h2] at ho; cases ho
    · have hk2 := ho
      rw [h2] at hk2
      have e1 : ocX cells k = k := by rw [ocX, if_pos ho]
      have e2 : ocR cells W k = restM cells W k := by rw [ocR, if_pos ho]; rfl
      have e3 : ocN cells W k = nrS cells W k 63 := by rw [ocN, if_pos ho]; rfl
      rw [e1, e2, e3]
      exact openAt_yes W H a cells cap k w hat (hW (by omega)) hn hk hk2

end Go.Proofs.YthlbplmghjaeoacDoor

/- Notes: SingleFinds by the model. -/
namespace Go.Proofs.YthlbplmghjaeoacDoor
open Go.RowKit

theorem opC_nil (c : Int) : opC [] c = false := by
  have : inC 0 c = false := by simp [inC]
  rw [opC, List.length_nil, this]; rfl
theorem siOK_eq (l : List UInt8) (c : Int) : siOK l c = (isB l && opC (grC noteSign l) c) := by
  rw [siOK]
  cases h : isB l with
  | true => rw [(sn_yes h).2.2]; rfl
  | false => rw [(sn_no h).2.2, opC_nil]; rfl
theorem siP_off {l : List UInt8} {c : Int} (h : siOK l c = false) : siP l c = ([], []) := by
  rw [siOK] at h
  rw [siP, ocN, h]
  exact pair_none _
theorem siP_on {l : List UInt8} {k : Nat} (hs : isB l = true) (h : siOK l k = true) : siP l k = singL (nrS (grC noteSign l) (grW noteSign l) k 63) (restM (grC noteSign l) (grW noteSign l) k) := by
  rw [siOK] at h
  rw [siP, ocN, ocR, if_pos h, if_pos h, (sn_yes hs).1, (sn_yes hs).2.2, Int.sub_zero, pair_sing]
  rfl

set_option maxRecDepth 100000 in
set_option maxHeartbeats 800000 in
theorem ruAsked_any (l : List UInt8) (c : Int) (w : World) (hl : l.length ≤ 1048576) :
    Calls Tryd.prog 24 #[.string ⟨l.toArray⟩, .int .i64 c] w fun e w' => e = .returned (.bool (siOK l c)) ∧ Below w.heap.size w w' := by
  have h1 := fun w => ruCell_any l c w hl
  rw [siOK_eq]
  rcases opC_case (grC noteSign l) c with ⟨hi, ho⟩ | ⟨k, rfl, hk, hi, hop⟩
  · rw [ho, Bool.and_false]
    rw [hi] at h1
    clear hi ho
    go_enter Tryd.func24, Tryd.ntmps24
    go_wp2_with fail
    refine (h1 _).mono ?_
    rintro e w1 ⟨rfl, hb⟩
    go_wp2_with fail
    go_ret
    exact ⟨rfl, hb⟩
  · rw [hi] at h1
    have hg : gridM noteSign l = true := by
      cases hg : gridM noteSign l with
      | true => rfl
      | false => rw [grC_none hg] at hk; simp at hk
    obtain ⟨hB, hsg⟩ := Grd.note hg
    have HS := Lib.hid (fun w => ruSound_any l _ _ _ hB hsg w hl)
    have HI : isB l = soundM (grC noteSign l) (grW noteSign l) := by rw [isB, hg, Bool.true_and]
    rw [← HI] at HS
    clear HI
    cases hs : isB l with
    | false =>
      rw [hs] at HS
      rw [Bool.false_and]
      clear hs hB hsg hg hop hi
      go_enter Tryd.func24, Tryd.ntmps24
      go_wp2_with fail
      refine (h1 _).mono ?_
      rintro e w1 ⟨rfl, hb⟩
      go_wp2_with fail
      refine (HS.out _).mono ?_
      rintro e w2 ⟨rfl, hb2⟩
      go_wp2_with fail
      go_ret
      exact ⟨rfl, hb.trans (hb2.mono hb.size)⟩
    | true =>
      rw [hs] at HS
      rw [Bool.true_and]
      have hbc := Lib.hid (fun w => boCells_any l w hl)
      rw [hB.cs] at hbc
      have h64 := grC_le noteSign l
      have hgd : (grC noteSign l).getD k 0 = (grC noteSign l)[k] := by simp [List.getD, hk]
      have hro := fun w => ruOpen_any (grC noteSign l)[k] w
      have HO : digSign (grC noteSign l)[k] = opC (grC noteSign l) k := by rw [hop, opB, hgd]
      rw [HO] at hro
      have HRO := Lib.hid hro
      clear hs hB hsg hg hop hi hgd hro HO
      generalize opC (grC noteSign l) k = ok at *
      go_enter Tryd.func24, Tryd.ntmps24
      go_wp2_with fail
      refine (h1 _).mono ?_
      rintro e w1 ⟨rfl, hb⟩
      go_wp2_with fail
      refine (HS.out _).mono ?_
      rintro e w2 ⟨rfl, hb2⟩
      go_wp2_with fail
      refine (hbc.out _).mono ?_
      rintro e w3 ⟨rfl, rfl⟩
      go_wp2_with fail
      refine (HRO.out _).mono ?_
      rintro e w3 ⟨rfl, rfl⟩
      go_wp2_with fail
      go_ret
      exact ⟨rfl, hb.trans (hb2.mono hb.size)⟩

end Go.Proofs.YthlbplmghjaeoacDoor

/- Notes: PairFinds by the program. -/
namespace Go.Proofs.YthlbplmghjaeoacDoor
open Go.RowKit

/-- What PairFinds hands back. -/
def pfOK (l : List UInt8) (c d : Int) : Bool := siOK l c && siOK l d && !(c == d)
def pfP (l : List UInt8) (c d : Int) : List Nat × List Nat := if pfOK l c d = true then pairL (ocN (snC l) (snW l) c) (ocN (snC l) (snW l) d) (ocR (snC l) (snW l) d - ocR (snC l) (snW l) c) else ([], [])
theorem pfP_cel (l : List UInt8) (c d : Int) : Cel (snC l).length (pfP l c d).1 ∧ Cel (snC l).length (pfP l c d).2 := by
  unfold pfP
  split
  · exact pairL_cel _ (ocN_cel _ _ _)
  · exact ⟨Cel.nil _, Cel.nil _⟩
theorem pfP_len (l : List UInt8) (c d : Int) : (pfP l c d).1.length ≤ 64 ∧ (pfP l c d).2.length ≤ 64 := ⟨Nat.le_trans (pfP_cel l c d).1.len (sn_le l), Nat.le_trans (pfP_cel l c d).2.len (sn_le l)⟩
theorem pfP_off {l : List UInt8} {c d : Int} (h : pfOK l c d = false) : pfP l c d = ([], []) := by rw [pfP, h]; rfl

theorem pairRule_own (fc ra : Int) (mk : Nat) (w : World) :
    Calls Tryd.prog 29 #[.agg #[.int .i64 fc, .int .i64 ra, .int .u64 (mk : Int)]] w fun e w' => ∃ g, e = .returned (.func (.func 56) #[] #[.pointer (some ⟨g, 0, none⟩)]) ∧ w'.heap[g]? = some (.cells #[.int .i64 fc, .int .i64 ra, .int .u64 (mk : Int)] 51 (0, 0)) ∧ Below w.heap.size w w' := by
  refine (pairRule_any fc ra mk w).mono ?_
  rintro e w' ⟨rfl, rfl⟩
  exact ⟨_, rfl, heap_alloc_new w _, (Below.refl _ _).alloc (Nat.le_refl _) _⟩

set_option maxRecDepth 100000 in
set_option maxHeartbeats 6400000 in
theorem iPairFinds_any (l : List UInt8) (c d : Int) (w : World) (hM : HasLib w) (hl : l.length ≤ 1048576) :
    Calls Tryd.prog 10 #[.string ⟨l.toArray⟩, .int .i64 c, .int .i64 d] w fun e w' => ∃ a1 c1 a2 c2, e = .returned (.tuple #[.slice a1 (pfP l c d).1.length c1, .slice a2 (pfP l c d).2.length c2, .bool (pfOK l c d)])
      ∧ Owns w' w.heap.size 3 (.slice a1 (pfP l c d).1.length c1) (nats (pfP l c d).1) ∧ Owns w' w.heap.size 3 (.slice a2 (pfP l c d).2.length c2) (nats (pfP l c d).2) ∧ Asunder (.slice a1 (pfP l c d).1.length c1) (.slice a2 (pfP l c d).2.length c2) ∧ Below w.heap.size w w' := by
  have HRS := Lib.hid (readSound_any l w hM.max hl)
  have HNG := Lib.hid (fun w => ngrid_any (snW l) (snH l) (snC l) w)
  have HOC := Lib.hid (fun a cap w h => openAt_any2 (snW l) (snH l) a (snC l) cap c w h (sn_pos l) (sn_le l))
  have HOD := Lib.hid (fun a cap w h => openAt_any2 (snW l) (snH l) a (snC l) cap d w h (sn_pos l) (sn_le l))
  have hcel := pfP_cel l c d
  have hb1 := hcel.1.mask (sn_le l)
  have hb2 := hcel.2.mask (sn_le l)
  have hlt1 := hcel.1.mlt (sn_le l)
  have hlt2 := hcel.2.mlt (sn_le l)
  have hP := fun g w h => pair1_any (snC l).length (sn_le l) (ocN (snC l) (snW l) c) (ocN (snC l) (snW l) d) (ocN_cel _ _ _) (ocN_cel _ _ _) (ocX (snC l) c) (ocX (snC l) d) (ocR (snC l) (snW l) c) (ocR (snC l) (snW l) d) g w (ocR_range _ _ _ (sn_le l)) (ocR_range _ _ _ (sn_le l)) h
  have hA1 := fun w hT => areaCells_any (maskM (pfP l c d).1) w hT hlt1
  have hA2 := fun w hT => areaCells_any (maskM (pfP l c d).2) w hT hlt2
  rw [hb1] at hA1
  rw [hb2] at hA2
  have hS : pfOK l c d = true → pfP l c d = pairL (ocN (snC l) (snW l) c) (ocN (snC l) (snW l) d) (ocR (snC l) (snW l) d - ocR (snC l) (snW l) c) := fun h => by rw [pfP, if_pos h]
  have hK1 : siOK l c = opC (snC l) c := rfl
  have hK2 : siOK l d = opC (snC l) d := rfl
  rw [← hK1] at HOC
  rw [← hK2] at HOD
  have hOK : pfOK l c d = (siOK l c && siOK l d && !(c == d)) := rfl
  have hoff : pfOK l c d = false → pfP l c d = ([], []) := pfP_off
  have HA1 := Lib.hid hA1
  have HA2 := Lib.hid hA2
  clear hA1 hA2 hcel hb1 hb2 hlt1 hlt2 hK1 hK2
  unfold ntV fdV at *
  generalize pfP l c d = P at *
  generalize pfOK l c d = OK at *
  generalize siOK l c = oc at *
  generalize siOK l d = od at *
  generalize ocX (snC l) c = X1 at *
  generalize ocR (snC l) (snW l) c = R1 at *
  generalize ocX (snC l) d = X2 at *
  generalize ocR (snC l) (snW l) d = R2 at *
  generalize ocN (snC l) (snW l) c = N1 at *
  generalize ocN (snC l) (snW l) d = N2 at *
  have hP2 : OK = true → ∀ g w, w.heap[g]? = some (.cells #[.int .i64 X1, .int .i64 R1, .int .u64 (maskM N1 : Nat)] 51 (0, 0)) → Calls Tryd.prog 56 #[.agg #[.int .i64 X2, .int .i64 R2, .int .u64 (maskM N2 : Nat)], .pointer (some ⟨g, 0, none⟩)] w fun e w' => e = .returned (.agg #[.int .u64 (maskM P.1 : Nat), .int .u64 (maskM P.2 : Nat)]) ∧ Below w.heap.size w w' := fun h g w hh => by rw [hS h]; exact hP g w hh
  clear hP hS
  generalize hm1 : maskM N1 = m1N at *
  generalize hm2 : maskM N2 = m2N at *
  clear hm1 hm2
  generalize snW l = W at *
  generalize snH l = H at *
  generalize snC l = cells at *
  have hT0 := hM.tab
  clear hM
  cases oc with
  | false =>
    have HP := Lib.hid (hoff (by rw [hOK]; rfl))
    obtain rfl : OK = false := by rw [hOK]; rfl
    clear hoff hOK hP2 HA1 HA2
    go_enter Tryd.func10, Tryd.ntmps10
    go_wp2_with fail
    refine HRS.out.mono ?_
    rintro e w1 ⟨rfl, hb1⟩
    have hb1a := hb1.alloc hb1.size (.cells #[.int .i64 W, .int .i64 H, .string ⟨cells.toArray⟩] 41)
    go_wp2_with fail
    refine (HNG.out _).mono ?_
    rintro e w3 ⟨a3, c3, rfl, hown3, hb3⟩
    have hb03 := hb1a.trans (hb3.mono hb1a.size)
    have hG := heap_alloc_new w3 (.cells #[.int .i64 W, .int .i64 H, .slice a3 cells.length c3, .bool false] 46)
    have hb3a := hb03.alloc hb03.size (.cells #[.int .i64 W, .int .i64 H, .slice a3 cells.length c3, .bool false] 46)
    have hat := hown3.at.later rfl ((Below.refl _ w3).alloc (Nat.le_refl _) (.cells #[.int .i64 W, .int .i64 H, .slice a3 cells.length c3, .bool false] 46))
    clear hown3 hb3 hb1 hb1a hb03
    go_wp2_with fail
    generalize hv3 : w3.alloc (.cells #[.int .i64 W, .int .i64 H, .slice a3 cells.length c3, .bool false] 46) = v3 at *
    clear hv3
    have HO1 := Lib.hid (HOC.out a3 c3 v3 hat)
    refine HO1.out.mono ?_
    rintro e w4 ⟨rfl, hb4⟩
    have hb04 := hb3a.trans (hb4.mono hb3a.size)
    have hat4 := hat.later rfl hb4
    have hG4 := (hb4.block _ (block_lt hG)).trans hG
    have hF5 := heap_alloc_new w4 (.cells #[.int .i64 X1, .int .i64 R1, .int .u64 m1N] 51)
    have hG5 := (Below.heap_alloc w4 (.cells #[.int .i64 X1, .int .i64 R1, .int .u64 m1N] 51) _ (block_lt hG4)).trans hG4
    have hb05 := hb04.alloc hb04.size (.cells #[.int .i64 X1, .int .i64 R1, .int .u64 m1N] 51)
    have hat5 := hat4.later rfl ((Below.refl _ w4).alloc (Nat.le_refl _) (.cells #[.int .i64 X1, .int .i64 R1, .int .u64 m1N] 51))
    have g0 : (w4.alloc (.cells #[.int .i64 X1, .int .i64 R1, .int .u64 m1N] 51)).cell? ⟨w3.heap.size, 0, none⟩ = some (.int .i64 W) := by rw [cell_of_block hG5]; rfl
    have g1 : (w4.alloc (.cells #[.int .i64 X1, .int .i64 R1, .int .u64 m1N] 51)).cell? ⟨w3.heap.size, 1, none⟩ = some (.int .i64 H) := by rw [cell_of_block hG5]; rfl
    have g2 : (w4.alloc (.cells #[.int .i64 X1, .int .i64 R1, .int .u64 m1N] 51)).cell? ⟨w3.heap.size, 2, none⟩ = some (.slice a3 cells.length c3) := by rw [cell_of_block hG5]; rfl
    have g3 : (w4.alloc (.cells #[.int .i64 X1, .int .i64 R1, .int .u64 m1N] 51)).cell? ⟨w3.heap.size, 3, none⟩ = some (.bool false) := by rw [cell_of_block hG5]; rfl
    have HF5 := Lib.hid hF5
    have HG5 := Lib.hid hG5
    have HO1 := trivial
    clear hat hat4 hG hG4 hG5 hF5 hb4 hb04 hb3a HO1
    go_wp2_with fail
    generalize hv4 : w4.alloc (.cells #[.int .i64 X1, .int .i64 R1, .int .u64 m1N] 51) = v4 at *
    clear hv4
    have HO2 := Lib.hid (HOD.out a3 c3 v4 hat5)
    refine HO2.out.mono ?_
    rintro e w6 ⟨rfl, hb6⟩
    have hb06 := hb05.trans (hb6.mono hb05.size)
    have hb07 := hb06.alloc hb06.size (.cells #[.int .i64 X2, .int .i64 R2, .int .u64 m2N] 51)
    have hF6 := (hb6.block _ (block_lt HF5.out)).trans HF5.out
    have hF7 := (Below.heap_alloc w6 (.cells #[.int .i64 X2, .int .i64 R2, .int .u64 m2N] 51) _ (block_lt hF6)).trans hF6
    have hS7 := heap_alloc_new w6 (.cells #[.int .i64 X2, .int .i64 R2, .int .u64 m2N] 51)
    have HF7 := Lib.hid hF7
    have HS7 := Lib.hid hS7
    clear hF6 hF7 hS7 hb6 hb05 hb06 hat5 HF5 HG5 g0 g1 g2 g3 HO2
    go_wp2_with fail
    go_ret3
    exact ⟨none, 0, none, 0, by rw [HP.out]; rfl, by rw [HP.out]; exact Owns.nil _ _ _, by rw [HP.out]; exact Owns.nil _ _ _, fun i j hi => (by cases hi), hb07⟩
  | true =>
    cases od with
    | false =>
      have HP := Lib.hid (hoff (by rw [hOK]; rfl))
      obtain rfl : OK = false := by rw [hOK]; rfl
      clear hoff hOK hP2 HA1 HA2
      go_enter Tryd.func10, Tryd.ntmps10
      go_wp2_with fail
      refine HRS.out.mono ?_
      rintro e w1 ⟨rfl, hb1⟩
      have hb1a := hb1.alloc hb1.size (.cells #[.int .i64 W, .int .i64 H, .string ⟨cells.toArray⟩] 41)
      go_wp2_with fail
      refine (HNG.out _).mono ?_
      rintro e w3 ⟨a3, c3, rfl, hown3, hb3⟩
      have hb03 := hb1a.trans (hb3.mono hb1a.size)
      have hG := heap_alloc_new w3 (.cells #[.int .i64 W, .int .i64 H, .slice a3 cells.length c3, .bool false] 46)
      have hb3a := hb03.alloc hb03.size (.cells #[.int .i64 W, .int .i64 H, .slice a3 cells.length c3, .bool false] 46)
      have hat := hown3.at.later rfl ((Below.refl _ w3).alloc (Nat.le_refl _) (.cells #[.int .i64 W, .int .i64 H, .slice a3 cells.length c3, .bool false] 46))
      clear hown3 hb3 hb1 hb1a hb03
      go_wp2_with fail
      generalize hv3 : w3.alloc (.cells #[.int .i64 W, .int .i64 H, .slice a3 cells.length c3, .bool false] 46) = v3 at *
      clear hv3
      have HO1 := Lib.hid (HOC.out a3 c3 v3 hat)
      refine HO1.out.mono ?_
      rintro e w4 ⟨rfl, hb4⟩
      have hb04 := hb3a.trans (hb4.mono hb3a.size)
      have hat4 := hat.later rfl hb4
      have hG4 := (hb4.block _ (block_lt hG)).trans hG
      have hF5 := heap_alloc_new w4 (.cells #[.int .i64 X1, .int .i64 R1, .int .u64 m1N] 51)
      have hG5 := (Below.heap_alloc w4 (.cells #[.int .i64 X1, .int .i64 R1, .int .u64 m1N] 51) _ (block_lt hG4)).trans hG4
      have hb05 := hb04.alloc hb04.size (.cells #[.int .i64 X1, .int .i64 R1, .int .u64 m1N] 51)
      have hat5 := hat4.later rfl ((Below.refl _ w4).alloc (Nat.le_refl _) (.cells #[.int .i64 X1, .int .i64 R1, .int .u64 m1N] 51))
      have g0 : (w4.alloc (.cells #[.int .i64 X1, .int .i64 R1, .int .u64 m1N] 51)).cell? ⟨w3.heap.size, 0, none⟩ = some (.int .i64 W) := by rw [cell_of_block hG5]; rfl
      have g1 : (w4.alloc (.cells #[.int .i64 X1, .int .i64 R1, .int .u64 m1N] 51)).cell? ⟨w3.heap.size, 1, none⟩ = some (.int .i64 H) := by rw [cell_of_block hG5]; rfl
      have g2 : (w4.alloc (.cells #[.int .i64 X1, .int .i64 R1, .int .u64 m1N] 51)).cell? ⟨w3.heap.size, 2, none⟩ = some (.slice a3 cells.length c3) := by rw [cell_of_block hG5]; rfl
      have g3 : (w4.alloc (.cells #[.int .i64 X1, .int .i64 R1, .int .u64 m1N] 51)).cell? ⟨w3.heap.size, 3, none⟩ = some (.bool false) := by rw [cell_of_block hG5]; rfl
      have HF5 := Lib.hid hF5
      have HG5 := Lib.hid hG5
      have HO1 := trivial
      clear hat hat4 hG hG4 hG5 hF5 hb4 hb04 hb3a HO1
      go_wp2_with fail
      generalize hv4 : w4.alloc (.cells #[.int .i64 X1, .int .i64 R1, .int .u64 m1N] 51) = v4 at *
      clear hv4
      have HO2 := Lib.hid (HOD.out a3 c3 v4 hat5)
      refine HO2.out.mono ?_
      rintro e w6 ⟨rfl, hb6⟩
      have hb06 := hb05.trans (hb6.mono hb05.size)
      have hb07 := hb06.alloc hb06.size (.cells #[.int .i64 X2, .int .i64 R2, .int .u64 m2N] 51)
      have hF6 := (hb6.block _ (block_lt HF5.out)).trans HF5.out
      have hF7 := (Below.heap_alloc w6 (.cells #[.int .i64 X2, .int .i64 R2, .int .u64 m2N] 51) _ (block_lt hF6)).trans hF6
      have hS7 := heap_alloc_new w6 (.cells #[.int .i64 X2, .int .i64 R2, .int .u64 m2N] 51)
      have HF7 := Lib.hid hF7
      have HS7 := Lib.hid hS7
      clear hF6 hF7 hS7 hb6 hb05 hb06 hat5 HF5 HG5 g0 g1 g2 g3 HO2
      go_wp2_with fail
      go_ret3
      exact ⟨none, 0, none, 0, by rw [HP.out]; rfl, by rw [HP.out]; exact Owns.nil _ _ _, by rw [HP.out]; exact Owns.nil _ _ _, fun i j hi => (by cases hi), hb07⟩
    | true =>
      by_cases e3 : c = d
      · have e4 : ((c : Int) == d) = true := by simpa using e3
        rw [e4] at hOK
        have HP := Lib.hid (hoff (by rw [hOK]; rfl))
        obtain rfl : OK = false := by rw [hOK]; rfl
        clear hoff hOK hP2 HA1 HA2 e3
        go_enter Tryd.func10, Tryd.ntmps10
        go_wp2_with fail
        refine HRS.out.mono ?_
        rintro e w1 ⟨rfl, hb1⟩
        have hb1a := hb1.alloc hb1.size (.cells #[.int .i64 W, .int .i64 H, .string ⟨cells.toArray⟩] 41)
        go_wp2_with fail
        refine (HNG.out _).mono ?_
        rintro e w3 ⟨a3, c3, rfl, hown3, hb3⟩
        have hb03 := hb1a.trans (hb3.mono hb1a.size)
        have hG := heap_alloc_new w3 (.cells #[.int .i64 W, .int .i64 H, .slice a3 cells.length c3, .bool false] 46)
        have hb3a := hb03.alloc hb03.size (.cells #[.int .i64 W, .int .i64 H, .slice a3 cells.length c3, .bool false] 46)
        have hat := hown3.at.later rfl ((Below.refl _ w3).alloc (Nat.le_refl _) (.cells #[.int .i64 W, .int .i64 H, .slice a3 cells.length c3, .bool false] 46))
        clear hown3 hb3 hb1 hb1a hb03
        go_wp2_with fail
        generalize hv3 : w3.alloc (.cells #[.int .i64 W, .int .i64 H, .slice a3 cells.length c3, .bool false] 46) = v3 at *
        clear hv3
        have HO1 := Lib.hid (HOC.out a3 c3 v3 hat)
        refine HO1.out.mono ?_
        rintro e w4 ⟨rfl, hb4⟩
        have hb04 := hb3a.trans (hb4.mono hb3a.size)
        have hat4 := hat.later rfl hb4
        have hG4 := (hb4.block _ (block_lt hG)).trans hG
        have hF5 := heap_alloc_new w4 (.cells #[.int .i64 X1, .int .i64 R1, .int .u64 m1N] 51)
        have hG5 := (Below.heap_alloc w4 (.cells #[.int .i64 X1, .int .i64 R1, .int .u64 m1N] 51) _ (block_lt hG4)).trans hG4
        have hb05 := hb04.alloc hb04.size (.cells #[.int .i64 X1, .int .i64 R1, .int .u64 m1N] 51)
        have hat5 := hat4.later rfl ((Below.refl _ w4).alloc (Nat.le_refl _) (.cells #[.int .i64 X1, .int .i64 R1, .int .u64 m1N] 51))
        have g0 : (w4.alloc (.cells #[.int .i64 X1, .int .i64 R1, .int .u64 m1N] 51)).cell? ⟨w3.heap.size, 0, none⟩ = some (.int .i64 W) := by rw [cell_of_block hG5]; rfl
        have g1 : (w4.alloc (.cells #[.int .i64 X1, .int .i64 R1, .int .u64 m1N] 51)).cell? ⟨w3.heap.size, 1, none⟩ = some (.int .i64 H) := by rw [cell_of_block hG5]; rfl
        have g2 : (w4.alloc (.cells #[.int .i64 X1, .int .i64 R1, .int .u64 m1N] 51)).cell? ⟨w3.heap.size, 2, none⟩ = some (.slice a3 cells.length c3) := by rw [cell_of_block hG5]; rfl
        have g3 : (w4.alloc (.cells #[.int .i64 X1, .int .i64 R1, .int .u64 m1N] 51)).cell? ⟨w3.heap.size, 3, none⟩ = some (.bool false) := by rw [cell_of_block hG5]; rfl
        have HF5 := Lib.hid hF5
        have HG5 := Lib.hid hG5
        have HO1 := trivial
        clear hat hat4 hG hG4 hG5 hF5 hb4 hb04 hb3a HO1
        go_wp2_with fail
        generalize hv4 : w4.alloc (.cells #[.int .i64 X1, .int .i64 R1, .int .u64 m1N] 51) = v4 at *
        clear hv4
        have HO2 := Lib.hid (HOD.out a3 c3 v4 hat5)
        refine HO2.out.mono ?_
        rintro e w6 ⟨rfl, hb6⟩
        have hb06 := hb05.trans (hb6.mono hb05.size)
        have hb07 := hb06.alloc hb06.size (.cells #[.int .i64 X2, .int .i64 R2, .int .u64 m2N] 51)
        have hF6 := (hb6.block _ (block_lt HF5.out)).trans HF5.out
        have hF7 := (Below.heap_alloc w6 (.cells #[.int .i64 X2, .int .i64 R2, .int .u64 m2N] 51) _ (block_lt hF6)).trans hF6
        have hS7 := heap_alloc_new w6 (.cells #[.int .i64 X2, .int .i64 R2, .int .u64 m2N] 51)
        have HF7 := Lib.hid hF7
        have HS7 := Lib.hid hS7
        clear hF6 hF7 hS7 hb6 hb05 hb06 hat5 HF5 HG5 g0 g1 g2 g3 HO2
        go_wp2_with fail
        go_ret3
        exact ⟨none, 0, none, 0, by rw [HP.out]; rfl, by rw [HP.out]; exact Owns.nil _ _ _, by rw [HP.out]; exact Owns.nil _ _ _, fun i j hi => (by cases hi), hb07⟩
      · have e4 : ((c : Int) == d) = false := by simpa using e3
        rw [e4] at hOK
        have hOK2 : OK = true := by rw [hOK]; rfl
        clear e3
        obtain rfl : OK = true := hOK2
        have HP := Lib.hid (hP2 rfl)
        clear hP2 hoff hOK
        obtain ⟨L1, L2⟩ := P
        simp only at HA1 HA2 HP ⊢
        generalize maskM L1 = m1 at *
        generalize maskM L2 = m2 at *
        go_enter Tryd.func10, Tryd.ntmps10
        go_wp2_with fail
        refine HRS.out.mono ?_
        rintro e w1 ⟨rfl, hb1⟩
        have hb1a := hb1.alloc hb1.size (.cells #[.int .i64 W, .int .i64 H, .string ⟨cells.toArray⟩] 41)
        go_wp2_with fail
        refine (HNG.out _).mono ?_
        rintro e w3 ⟨a3, c3, rfl, hown3, hb3⟩
        have hb03 := hb1a.trans (hb3.mono hb1a.size)
        have hG := heap_alloc_new w3 (.cells #[.int .i64 W, .int .i64 H, .slice a3 cells.length c3, .bool false] 46)
        have hb3a := hb03.alloc hb03.size (.cells #[.int .i64 W, .int .i64 H, .slice a3 cells.length c3, .bool false] 46)
        have hat := hown3.at.later rfl ((Below.refl _ w3).alloc (Nat.le_refl _) (.cells #[.int .i64 W, .int .i64 H, .slice a3 cells.length c3, .bool false] 46))
        clear hown3 hb3 hb1 hb1a hb03
        go_wp2_with fail
        generalize hv3 : w3.alloc (.cells #[.int .i64 W, .int .i64 H, .slice a3 cells.length c3, .bool false] 46) = v3 at *
        clear hv3
        have HO1 := Lib.hid (HOC.out a3 c3 v3 hat)
        refine HO1.out.mono ?_
        rintro e w4 ⟨rfl, hb4⟩
        have hb04 := hb3a.trans (hb4.mono hb3a.size)
        have hat4 := hat.later rfl hb4
        have hG4 := (hb4.block _ (block_lt hG)).trans hG
        have hF5 := heap_alloc_new w4 (.cells #[.int .i64 X1, .int .i64 R1, .int .u64 m1N] 51)
        have hG5 := (Below.heap_alloc w4 (.cells #[.int .i64 X1, .int .i64 R1, .int .u64 m1N] 51) _ (block_lt hG4)).trans hG4
        have hb05 := hb04.alloc hb04.size (.cells #[.int .i64 X1, .int .i64 R1, .int .u64 m1N] 51)
        have hat5 := hat4.later rfl ((Below.refl _ w4).alloc (Nat.le_refl _) (.cells #[.int .i64 X1, .int .i64 R1, .int .u64 m1N] 51))
        have g0 : (w4.alloc (.cells #[.int .i64 X1, .int .i64 R1, .int .u64 m1N] 51)).cell? ⟨w3.heap.size, 0, none⟩ = some (.int .i64 W) := by rw [cell_of_block hG5]; rfl
        have g1 : (w4.alloc (.cells #[.int .i64 X1, .int .i64 R1, .int .u64 m1N] 51)).cell? ⟨w3.heap.size, 1, none⟩ = some (.int .i64 H) := by rw [cell_of_block hG5]; rfl
        have g2 : (w4.alloc (.cells #[.int .i64 X1, .int .i64 R1, .int .u64 m1N] 51)).cell? ⟨w3.heap.size, 2, none⟩ = some (.slice a3 cells.length c3) := by rw [cell_of_block hG5]; rfl
        have g3 : (w4.alloc (.cells #[.int .i64 X1, .int .i64 R1, .int .u64 m1N] 51)).cell? ⟨w3.heap.size, 3, none⟩ = some (.bool false) := by rw [cell_of_block hG5]; rfl
        have HF5 := Lib.hid hF5
        have HG5 := Lib.hid hG5
        have HO1 := trivial
        clear hat hat4 hG hG4 hG5 hF5 hb4 hb04 hb3a HO1
        go_wp2_with fail
        generalize hv4 : w4.alloc (.cells #[.int .i64 X1, .int .i64 R1, .int .u64 m1N] 51) = v4 at *
        clear hv4
        have HO2 := Lib.hid (HOD.out a3 c3 v4 hat5)
        refine HO2.out.mono ?_
        rintro e w6 ⟨rfl, hb6⟩
        have hb06 := hb05.trans (hb6.mono hb05.size)
        have hb07 := hb06.alloc hb06.size (.cells #[.int .i64 X2, .int .i64 R2, .int .u64 m2N] 51)
        have hF6 := (hb6.block _ (block_lt HF5.out)).trans HF5.out
        have hF7 := (Below.heap_alloc w6 (.cells #[.int .i64 X2, .int .i64 R2, .int .u64 m2N] 51) _ (block_lt hF6)).trans hF6
        have hS7 := heap_alloc_new w6 (.cells #[.int .i64 X2, .int .i64 R2, .int .u64 m2N] 51)
        have HF7 := Lib.hid hF7
        have HS7 := Lib.hid hS7
        clear hF6 hF7 hS7 hb6 hb05 hb06 hat5 HF5 HG5 g0 g1 g2 g3 HO2
        go_wp2_with fail
        generalize hv6 : w6.alloc (.cells #[.int .i64 X2, .int .i64 R2, .int .u64 m2N] 51) = w2 at *
        clear hv6
        have n0 : w2.cell? ⟨w4.heap.size, 0, none⟩ = some (.int .i64 X1) := by rw [cell_of_block HF7.out]; rfl
        have n1 : w2.cell? ⟨w4.heap.size, 1, none⟩ = some (.int .i64 R1) := by rw [cell_of_block HF7.out]; rfl
        have n2 : w2.cell? ⟨w4.heap.size, 2, none⟩ = some (.int .u64 m1N) := by rw [cell_of_block HF7.out]; rfl
        have n3 : w2.cell? ⟨w6.heap.size, 0, none⟩ = some (.int .i64 X2) := by rw [cell_of_block HS7.out]; rfl
        have n4 : w2.cell? ⟨w6.heap.size, 1, none⟩ = some (.int .i64 R2) := by rw [cell_of_block HS7.out]; rfl
        have n5 : w2.cell? ⟨w6.heap.size, 2, none⟩ = some (.int .u64 m2N) := by rw [cell_of_block HS7.out]; rfl
        have hnl := block_lt HF7.out
        have hnl2 := block_lt HS7.out
        have hA : ∀ w', Below w2.heap.size w2 w' → w'.cell? ⟨w4.heap.size, 0, none⟩ = some (.int .i64 X1) ∧ w'.cell? ⟨w4.heap.size, 1, none⟩ = some (.int .i64 R1) ∧ w'.cell? ⟨w4.heap.size, 2, none⟩ = some (.int .u64 m1N) ∧ w'.cell? ⟨w6.heap.size, 0, none⟩ = some (.int .i64 X2) ∧ w'.cell? ⟨w6.heap.size, 1, none⟩ = some (.int .i64 R2) ∧ w'.cell? ⟨w6.heap.size, 2, none⟩ = some (.int .u64 m2N) := fun w' h => ⟨(h.cell (p := ⟨w4.heap.size, 0, none⟩) hnl).trans n0, (h.cell (p := ⟨w4.heap.size, 1, none⟩) hnl).trans n1, (h.cell (p := ⟨w4.heap.size, 2, none⟩) hnl).trans n2, (h.cell (p := ⟨w6.heap.size, 0, none⟩) hnl2).trans n3, (h.cell (p := ⟨w6.heap.size, 1, none⟩) hnl2).trans n4, (h.cell (p := ⟨w6.heap.size, 2, none⟩) hnl2).trans n5⟩
        have HA := Lib.hid hA
        have hdr : Below w2.heap.size w2 w2.drew := toDrew (Below.refl _ w2)
        have hal := fun o => toDrew ((Below.refl _ w2).alloc (Nat.le_refl _) o)
        have HZ : Hid (∀ (w : World), (w.alloc (.cells #[.int .u64 0, .int .u64 0] 55)).heap[w.heap.size]? = some (.cells #[.int .u64 0, .int .u64 0] 55 (0, 0))) := fun w => heap_alloc_new w _
        clear hA HF7 HS7
        go_cut [16] (fun s16 wx => ∃ V : Nat, s16 = .pointer (some ⟨V, 0, none⟩) ∧ Hid (wx.heap[V]? = some (.cells #[.int .u64 m1, .int .u64 m2] 55 (0, 0))) ∧ Below w2.heap.size w2 wx)
        case first =>
          go_region_held3 (fun w' => w'.cell? ⟨w4.heap.size, 0, none⟩ = some (.int .i64 X1) ∧ w'.cell? ⟨w4.heap.size, 1, none⟩ = some (.int .i64 R1) ∧ w'.cell? ⟨w4.heap.size, 2, none⟩ = some (.int .u64 m1N) ∧ w'.cell? ⟨w6.heap.size, 0, none⟩ = some (.int .i64 X2) ∧ w'.cell? ⟨w6.heap.size, 1, none⟩ = some (.int .i64 R2) ∧ w'.cell? ⟨w6.heap.size, 2, none⟩ = some (.int .u64 m2N))
            (first | with_reducible exact HA.out _ hdr | with_reducible exact HA.out _ (hal _) | with_reducible exact HA.out _ hbC | with_reducible exact HA.out _ hbA | with_reducible exact HA.out _ (hbC.alloc hbC.size _) | with_reducible exact HA.out _ (hbA.alloc hbA.size _) | exact HA.out _ (Below.setCell2 hbC (by have := hbA.size; omega) _ _))
            (first
              | (go_at_call 29; refine (pairRule_own X1 R1 m1N _).mono ?_; rintro e w3 ⟨g, rfl, hG3, hb3⟩; have hbA : Below w2.heap.size w2 w3 := (by first | exact ofDrew hb3 | exact (hal _).trans (hb3.mono (by simp))); have HGX := Lib.hid (fun (X : World) (h : Below w3.heap.size w3 X) => (h.block g (block_lt hG3)).trans hG3); first | (have hVa := (hb3.block _ (by simp)).trans (HZ.out _); have hv0 := cell_of_block hVa 0; have hv1 := cell_of_block hVa 1; simp at hv0 hv1; have hz0 := frozen_of_block hVa 0; have hz1 := frozen_of_block hVa 1; have HVa := Lib.hid hVa; have hVla := block_lt hVa; clear hVa) | skip)
              | (go_at_call 56; refine (HP.out g _ (HGX.out _ (by first | exact Below.refl _ _ | exact (Below.refl _ _).alloc (Nat.le_refl _) _))).mono ?_; rintro e w5 ⟨rfl, hb5⟩; have hbC : Below w2.heap.size w2 w5 := (by first | exact hbA.trans (hb5.mono hbA.size) | exact (hbA.alloc hbA.size _).trans (hb5.mono (by have := hbA.size; simp; omega))); first | (have hVc := (hb5.block _ hVla).trans HVa.out; have hv0 := cell_of_block hVc 0; have hv1 := cell_of_block hVc 1; simp at hv0 hv1; have hz0 := frozen_of_block hVc 0; have hz1 := frozen_of_block hVc 1; have HVc := Lib.hid hVc; have hVlc := block_lt hVc; clear hVc) | (have hVc := (hb5.block _ (by simp)).trans (HZ.out _); have hv0 := cell_of_block hVc 0; have hv1 := cell_of_block hVc 1; simp at hv0 hv1; have hz0 := frozen_of_block hVc 0; have hz1 := frozen_of_block hVc 1; have HVc := Lib.hid hVc; have hVlc := block_lt hVc; clear hVc) | skip))
          all_goals
            go_wp2_with fail
            go_meet
            first
              | exact ⟨w5.heap.size, rfl, heap_alloc_new w5 _, hbC.alloc hbC.size _⟩
              | (have b2 := block_set (block_set HVc.out 0 (.int .u64 m1)) 1 (.int .u64 m2)
                 simp at b2
                 exact ⟨_, rfl, b2, Below.setCell2 hbC (by have := hbA.size; omega) _ _⟩)
        case rest =>
          obtain ⟨V, rfl, hV, hbx⟩ := hcut
          have x0 : wc.cell? ⟨V, 0, none⟩ = some (.int .u64 m1) := by rw [cell_of_block hV.out]; rfl
          have x1 : wc.cell? ⟨V, 1, none⟩ = some (.int .u64 m2) := by rw [cell_of_block hV.out]; rfl
          have hvl := block_lt hV.out
          have hbw := hb07.trans (hbx.mono hb07.size)
          have hTw := hT0.later hbw
          have HX := Lib.hid (fun w' (h : Below wc.heap.size wc w') => (⟨(h.cell (p := ⟨V, 0, none⟩) hvl).trans x0, (h.cell (p := ⟨V, 1, none⟩) hvl).trans x1⟩ : w'.cell? ⟨V, 0, none⟩ = some (.int .u64 m1) ∧ w'.cell? ⟨V, 1, none⟩ = some (.int .u64 m2)))
          have hdw : Below wc.heap.size wc wc.drew := toDrew (Below.refl _ wc)
          have HC1 := Lib.hid (fun w' (h : Below wc.heap.size wc w') => HA1.out w' (hTw.later h))
          have HC2 := Lib.hid (fun w' (h : Below wc.heap.size wc w') => HA2.out w' (hTw.later h))
          clear HA1 HA2 hdr hal n0 n1 n2 n3 n4 n5 HA hb07 hbx HP HZ hTw hT0
          go_wp2_with fail
          go_region_held3 (fun w' => w'.cell? ⟨V, 0, none⟩ = some (.int .u64 m1) ∧ w'.cell? ⟨V, 1, none⟩ = some (.int .u64 m2))
            (first | with_reducible exact HX.out _ hdw | with_reducible exact HX.out _ hbA | with_reducible exact HX.out _ hbB)
            (first
              | (go_at_call 30; ((with_reducible refine (HC1.out _ (by first | exact hdw | exact hbB)).mono ?_); rintro e w5 ⟨a1, c1, rfl, ho1, hb5⟩; have hbA : Below wc.heap.size wc w5 := (by first | exact hbB.trans (hb5.mono hbB.size) | exact ofDrew hb5)))
              | (go_at_call 30; ((with_reducible refine (HC2.out _ (by first | exact hdw | exact hbA)).mono ?_); rintro e w6 ⟨a2, c2, rfl, ho2, hb6⟩; have hbB : Below wc.heap.size wc w6 := (by first | exact hbA.trans (hb6.mono hbA.size) | exact ofDrew hb6))))
          all_goals
            go_wp2_with fail
            go_ret3
            first
              | exact ⟨a1, c1, a2, c2, rfl, (ho1.later hb6).mono (Nat.le_trans hbw.size hdw.size), ho2.mono (Nat.le_trans hbw.size hbA.size), fun i j hi hj => by have := (ho1.lt i hi).2; have := (ho2.lt j hj).1; omega, hbw.trans (hbB.mono hbw.size)⟩
              | exact ⟨a1, c1, a2, c2, rfl, ho1.mono (Nat.le_trans hbw.size hbB.size), (ho2.later hb5).mono (Nat.le_trans hbw.size hdw.size), fun i j hi hj => by have := (ho2.lt j hj).2; have := (ho1.lt i hi).1; omega, hbw.trans (hbA.mono hbw.size)⟩
end Go.Proofs.YthlbplmghjaeoacDoor

/- Notes: PairFinds by the model. -/
namespace Go.Proofs.YthlbplmghjaeoacDoor
open Go.RowKit

/-- What it means that an open cell of sound notes is asked. -/
theorem siOK_cell {l : List UInt8} {c : Int} (h : siOK l c = true) : isB l = true ∧ gridM noteSign l = true ∧ ∃ k : Nat, c = k ∧ k < (grC noteSign l).length ∧ opB (grC noteSign l) k = true := by
  have h2 := siOK_eq l c
  rw [h] at h2
  have hs : isB l = true := by cases h : isB l with | true => rfl | false => rw [h] at h2; cases h2
  rw [hs, Bool.true_and] at h2
  rcases opC_case (grC noteSign l) c with ⟨_, ho2⟩ | ⟨k, rfl, hk, _, hop⟩
  · rw [ho2] at h2; cases h2
  · refine ⟨hs, ?_, k, rfl, hk, by rw [← hop]; exact h2.symm⟩
    cases hg : gridM noteSign l with
    | true => rfl
    | false => rw [grC_none hg] at hk; simp at hk
theorem ocN_on {l : List UInt8} {k : Nat} (hs : isB l = true) (h : siOK l k = true) : ocN (snC l) (snW l) k = nrS (grC noteSign l) (grW noteSign l) k 63 ∧ ocR (snC l) (snW l) k = restM (grC noteSign l) (grW noteSign l) k := by
  rw [siOK] at h
  rw [ocN, ocR, if_pos h, if_pos h, (sn_yes hs).1, (sn_yes hs).2.2]
  exact ⟨rfl, rfl⟩

set_option maxRecDepth 100000 in
set_option maxHeartbeats 1600000 in
theorem sPairFinds_any (l : List UInt8) (c d : Int) (w : World) (hl : l.length ≤ 1048576) :
    Calls Tryd.prog 9 #[.string ⟨l.toArray⟩, .int .i64 c, .int .i64 d] w fun e w' => ∃ a1 c1 a2 c2, e = .returned (.tuple #[.slice a1 (pfP l c d).1.length c1, .slice a2 (pfP l c d).2.length c2, .bool (pfOK l c d)])
      ∧ Owns w' w.heap.size 3 (.slice a1 (pfP l c d).1.length c1) (nats (pfP l c d).1) ∧ Owns w' w.heap.size 3 (.slice a2 (pfP l c d).2.length c2) (nats (pfP l c d).2) ∧ Below w.heap.size w w' := by
  have h1 := fun w => ruAsked_any l c w hl
  have h2 := fun w => ruAsked_any l d w hl
  have hOK : pfOK l c d = (siOK l c && siOK l d && !(c == d)) := rfl
  cases hc : siOK l c with
  | false =>
    rw [hc] at h1
    have hn : pfOK l c d = false := by rw [hOK, hc]; rfl
    have HP := Lib.hid (pfP_off hn)
    rw [hn]
    clear hn hOK hc h2
    go_enter Tryd.func9, Tryd.ntmps9
    go_wp2_with fail
    refine (h1 _).mono ?_
    rintro e w1 ⟨rfl, hb⟩
    go_wp2_with fail
    go_ret3
    exact ⟨none, 0, none, 0, by rw [HP.out]; rfl, by rw [HP.out]; exact Owns.nil _ _ _, by rw [HP.out]; exact Owns.nil _ _ _, hb⟩
  | true =>
    have H1 := Lib.hid h1
    clear h1
    rw [hc] at H1
    cases hd : siOK l d with
    | false =>
      have H2 := Lib.hid h2
      clear h2
      rw [hd] at H2
      have hn : pfOK l c d = false := by rw [hOK, hc, hd]; rfl
      have HP := Lib.hid (pfP_off hn)
      rw [hn]
      clear hn hOK hc hd
      go_enter Tryd.func9, Tryd.ntmps9
      go_wp2_with fail
      refine (H1.out _).mono ?_
      rintro e w1 ⟨rfl, hb⟩
      go_wp2_with fail
      refine (H2.out _).mono ?_
      rintro e w2 ⟨rfl, hb2⟩
      have hb02 := hb.trans (hb2.mono hb.size)
      go_wp2_with fail
      go_ret3
      exact ⟨none, 0, none, 0, by rw [HP.out]; rfl, by rw [HP.out]; exact Owns.nil _ _ _, by rw [HP.out]; exact Owns.nil _ _ _, hb02⟩
    | true =>
      have H2 := Lib.hid h2
      clear h2
      rw [hd] at H2
      by_cases e3 : c = d
      · have e4 : ((c : Int) == d) = true := by simpa using e3
        have hn : pfOK l c d = false := by rw [hOK, e4]; simp
        have HP := Lib.hid (pfP_off hn)
        rw [hn]
        clear hn hOK hc hd e3
        go_enter Tryd.func9, Tryd.ntmps9
        go_wp2_with fail
        refine (H1.out _).mono ?_
        rintro e w1 ⟨rfl, hb⟩
        go_wp2_with fail
        refine (H2.out _).mono ?_
        rintro e w2 ⟨rfl, hb2⟩
        have hb02 := hb.trans (hb2.mono hb.size)
        go_wp2_with fail
        go_ret3
        exact ⟨none, 0, none, 0, by rw [HP.out]; rfl, by rw [HP.out]; exact Owns.nil _ _ _, by rw [HP.out]; exact Owns.nil _ _ _, hb02⟩
      · have e4 : ((c : Int) == d) = false := by simpa using e3
        have hy : pfOK l c d = true := by rw [hOK, hc, hd, e4]; rfl
        obtain ⟨hs, hg, x, rfl, hx, hox⟩ := siOK_cell hc
        obtain ⟨_, _, y, rfl, hy2, hoy⟩ := siOK_cell hd
        have hP : pfP l x y = pairAt (grC noteSign l) (grW noteSign l) (nrS (grC noteSign l) (grW noteSign l) x 63) (restM (grC noteSign l) (grW noteSign l) x) y := by
          rw [pfP, if_pos hy, (ocN_on hs hc).1, (ocN_on hs hc).2, (ocN_on hs hd).1, (ocN_on hs hd).2]; rfl
        have HRP := Lib.hid (fun w => ruPair_any l _ _ _ (Grd.of hg) x y hx hy2 hox hoy w hl)
        rw [← hP] at HRP
        rw [hy]
        clear hP hg hs hc hd hOK hy e3 hox hoy hx hy2
        go_enter Tryd.func9, Tryd.ntmps9
        go_wp2_with fail
        refine (H1.out _).mono ?_
        rintro e w1 ⟨rfl, hb⟩
        go_wp2_with fail
        refine (H2.out _).mono ?_
        rintro e w2 ⟨rfl, hb2⟩
        have hb02 := hb.trans (hb2.mono hb.size)
        go_wp2_with fail
        refine (HRP.out _).mono ?_
        rintro e w3 ⟨a1, c1, a2, c2, rfl, ho1, ho2, hb3⟩
        go_wp2_with fail
        go_ret3
        exact ⟨a1, c1, a2, c2, rfl, ho1.mono hb02.size, ho2.mono hb02.size, hb02.trans (hb3.mono hb02.size)⟩
end Go.Proofs.YthlbplmghjaeoacDoor
