/- D3, D4, laid as one text. -/
import Derived.Test.YthlbplmghjaeoabDoorGCV
import Derived.Test.YthlbplmghjaeoabDoorCT
import Derived.Test.YthlbplmghjaeoabDoorE3
import Derived.Outline

/- Notes: SingleFinds by the program. -/
namespace Go.Proofs.YthlbplmghjaeoabDoor
open Go.RowKit

/-- What is told of an open cell; of no open cell: nothing. -/
def ocX (cells : List UInt8) (c : Int) : Int := if opC cells c = true then c else 0
def ocR (cells : List UInt8) (W : Nat) (c : Int) : Int := if opC cells c = true then restM cells W c.toNat else 0
def ocN (cells : List UInt8) (W : Nat) (c : Int) : List Nat := if opC cells c = true then nrS cells W c.toNat 63 else []
theorem ocN_cel (cells : List UInt8) (W : Nat) (c : Int) : Cel cells.length (ocN cells W c) := by
  unfold ocN
  split
  · exact Cel.near _ _ _ _
  · exact Cel.nil _
theorem ocR_range (cells : List UInt8) (W : Nat) (c : Int) (h : cells.length ≤ 64) : -100 ≤ ocR cells W c ∧ ocR cells W c ≤ 300 := by
  unfold ocR
  split
  · exact rest_range _ _ _ h
  · omega
/-- What SingleFinds hands back. -/
def siP (l : List UInt8) (c : Int) : List Nat × List Nat := pairL [] (ocN (snC l) (snW l) c) (ocR (snC l) (snW l) c - 0)
def siOK (l : List UInt8) (c : Int) : Bool := opC (snC l) c
theorem siP_cel (l : List UInt8) (c : Int) : Cel (snC l).length (siP l c).1 ∧ Cel (snC l).length (siP l c).2 := pairL_cel _ (ocN_cel _ _ _)
theorem siP_len (l : List UInt8) (c : Int) : (siP l c).1.length ≤ 64 ∧ (siP l c).2.length ≤ 64 := ⟨Nat.le_trans (siP_cel l c).1.len (sn_le l), Nat.le_trans (siP_cel l c).2.len (sn_le l)⟩

theorem openAt_any2 (W H : Nat) (a : Option Addr) (cells : List UInt8) (cap : Nat) (c : Int) (w : World) (hat : At w a (byts cells)) (hW : 0 < cells.length → 1 ≤ W) (hn : cells.length ≤ 64) :
    Calls Tryd.prog 44 #[.agg #[.int .i64 W, .int .i64 H, .slice a cells.length cap, .bool false], .int .i64 c] w fun e w' => e = .returned (.tuple #[.agg #[.int .i64 (ocX cells c), .int .i64 (ocR cells W c), .int .u64 (maskM (ocN cells W c) : Nat)], .bool (opC cells c)]) ∧ Below w.heap.size w w' := by
  cases ho : opC cells c with
  | false =>
    have e1 : ocX cells c = 0 := by rw [ocX, ho]; rfl
    have e2 : ocR cells W c = 0 := by rw [ocR, ho]; rfl
    have e3 : ocN cells W c = [] := by rw [ocN, ho]; rfl
    rw [e1, e2, e3]
    exact openAt_no W H a cells cap c w hat hn ho
  | true =>
    rcases opC_case cells c with ⟨_, h2⟩ | ⟨k, rfl, hk, _, h2⟩
    · rw [h2] at ho; cases ho
    · have hk2 := ho
      rw [h2] at hk2
      have e1 : ocX cells k = k := by rw [ocX, if_pos ho]
      have e2 : ocR cells W k = restM cells W k := by rw [ocR, if_pos ho]; rfl
      have e3 : ocN cells W k = nrS cells W k 63 := by rw [ocN, if_pos ho]; rfl
      rw [e1, e2, e3]
      exact openAt_yes W H a cells cap k w hat (hW (by omega)) hn hk hk2

set_option maxRecDepth 100000 in
set_option maxHeartbeats 3200000 in
theorem iSingleFinds_any (l : List UInt8) (c : Int) (w : World) (hM : HasLib w) (hl : l.length ≤ 1048576) :
    Calls Tryd.prog 30 #[.string ⟨l.toArray⟩, .int .i64 c] w fun e w' => ∃ a1 c1 a2 c2, e = .returned (.tuple #[.slice a1 (siP l c).1.length c1, .slice a2 (siP l c).2.length c2, .bool (siOK l c)])
      ∧ Owns w' w.heap.size 3 (.slice a1 (siP l c).1.length c1) (nats (siP l c).1) ∧ Owns w' w.heap.size 3 (.slice a2 (siP l c).2.length c2) (nats (siP l c).2) ∧ Asunder (.slice a1 (siP l c).1.length c1) (.slice a2 (siP l c).2.length c2) ∧ Below w.heap.size w w' := by
  have HRS := Lib.hid (readSound_any l w hM.max hl)
  have HNG := Lib.hid (fun w => ngrid_any (snW l) (snH l) (snC l) w)
  have HOA := Lib.hid (fun a cap w h => openAt_any2 (snW l) (snH l) a (snC l) cap c w h (sn_pos l) (sn_le l))
  have hcel := siP_cel l c
  have hb1 := hcel.1.mask (sn_le l)
  have hb2 := hcel.2.mask (sn_le l)
  have hlt1 := hcel.1.mlt (sn_le l)
  have hlt2 := hcel.2.mlt (sn_le l)
  have hP := fun g w h => pair1_any (snC l).length (sn_le l) [] (ocN (snC l) (snW l) c) (Cel.nil _) (ocN_cel _ _ _) 0 (ocX (snC l) c) 0 (ocR (snC l) (snW l) c) g w ⟨by omega, by omega⟩ (ocR_range _ _ _ (sn_le l)) h
  have hA1 := fun w hT => areaCells_any (maskM (siP l c).1) w hT hlt1
  have hA2 := fun w hT => areaCells_any (maskM (siP l c).2) w hT hlt2
  rw [hb1] at hA1
  rw [hb2] at hA2
  have HS : Hid (siP l c = pairL [] (ocN (snC l) (snW l) c) (ocR (snC l) (snW l) c - 0)) := rfl
  have HK : Hid (siOK l c = opC (snC l) c) := rfl
  rw [← HS.out] at hP
  rw [← HK.out] at HOA
  have HP := Lib.hid hP
  have HA1 := Lib.hid hA1
  have HA2 := Lib.hid hA2
  clear hP hA1 hA2 hcel hb1 hb2 hlt1 hlt2 HS HK
  unfold ntV fdV at *
  generalize siP l c = P at *
  generalize siOK l c = OK at *
  obtain ⟨L1, L2⟩ := P
  simp only at HA1 HA2 HP ⊢
  generalize maskM L1 = m1 at *
  generalize maskM L2 = m2 at *
  generalize ocX (snC l) c = X at *
  generalize ocR (snC l) (snW l) c = R at *
  generalize hmN : maskM (ocN (snC l) (snW l) c) = mN at *
  clear hmN
  generalize snW l = W at *
  generalize snH l = H at *
  generalize snC l = cells at *
  have hT0 := hM.tab
  clear hM
  go_enter Tryd.func30, Tryd.ntmps30
  go_wp2_with fail
  refine HRS.out.mono ?_
  rintro e w1 ⟨rfl, hb1⟩
  have hb1a := hb1.alloc hb1.size (.cells #[.int .i64 W, .int .i64 H, .string ⟨cells.toArray⟩] 44)
  go_wp2_with fail
  refine (HNG.out _).mono ?_
  rintro e w3 ⟨a3, c3, rfl, hown3, hb3⟩
  have hb03 := hb1a.trans (hb3.mono hb1a.size)
  have HOB := Lib.hid (HOA.out a3 c3 w3 hown3.at)
  clear hown3 hb3 hb1 hb1a
  go_wp2_with fail
  refine HOB.out.mono ?_
  rintro e w4 ⟨rfl, hb4⟩
  have hb04 := hb03.trans (hb4.mono hb03.size)
  have hb05 := hb04.alloc hb04.size (.cells #[.int .i64 X, .int .i64 R, .int .u64 mN] 61)
  have hN1 := heap_alloc_new w4 (.cells #[.int .i64 X, .int .i64 R, .int .u64 mN] 61)
  clear hb03 hb4 hb04
  go_wp2_with fail
  generalize w4.alloc (.cells #[.int .i64 X, .int .i64 R, .int .u64 mN] 61) = w2 at *
  have n0 : w2.cell? ⟨w4.heap.size, 0, none⟩ = some (.int .i64 X) := by rw [cell_of_block hN1]; rfl
  have n1 : w2.cell? ⟨w4.heap.size, 1, none⟩ = some (.int .i64 R) := by rw [cell_of_block hN1]; rfl
  have n2 : w2.cell? ⟨w4.heap.size, 2, none⟩ = some (.int .u64 mN) := by rw [cell_of_block hN1]; rfl
  have hnl := block_lt hN1
  have hA : ∀ w', Below w2.heap.size w2 w' → w'.cell? ⟨w4.heap.size, 0, none⟩ = some (.int .i64 X) ∧ w'.cell? ⟨w4.heap.size, 1, none⟩ = some (.int .i64 R) ∧ w'.cell? ⟨w4.heap.size, 2, none⟩ = some (.int .u64 mN) := fun w' h => ⟨(h.cell (p := ⟨w4.heap.size, 0, none⟩) hnl).trans n0, (h.cell (p := ⟨w4.heap.size, 1, none⟩) hnl).trans n1, (h.cell (p := ⟨w4.heap.size, 2, none⟩) hnl).trans n2⟩
  have HA := Lib.hid hA
  have hdr : Below w2.heap.size w2 w2.drew := toDrew (Below.refl _ w2)
  have hal := fun o => toDrew ((Below.refl _ w2).alloc (Nat.le_refl _) o)
  have HZ : Hid (∀ (w : World), (w.alloc (.cells #[.int .u64 0, .int .u64 0] 69)).heap[w.heap.size]? = some (.cells #[.int .u64 0, .int .u64 0] 69 (0, 0))) := fun w => heap_alloc_new w _
  clear hA hN1
  go_cut [11] (fun s11 wx => ∃ V : Nat, s11 = .pointer (some ⟨V, 0, none⟩) ∧ Hid (wx.heap[V]? = some (.cells #[.int .u64 m1, .int .u64 m2] 69 (0, 0))) ∧ Below w2.heap.size w2 wx)
  case first =>
    go_region_held3 (fun w' => w'.cell? ⟨w4.heap.size, 0, none⟩ = some (.int .i64 X) ∧ w'.cell? ⟨w4.heap.size, 1, none⟩ = some (.int .i64 R) ∧ w'.cell? ⟨w4.heap.size, 2, none⟩ = some (.int .u64 mN))
      (first | with_reducible exact HA.out _ hdr | with_reducible exact HA.out _ (hal _) | with_reducible exact HA.out _ hbC | with_reducible exact HA.out _ hbA | with_reducible exact HA.out _ (hbC.alloc hbC.size _) | with_reducible exact HA.out _ (hbA.alloc hbA.size _) | exact HA.out _ (Below.setCell2 hbC (by have := hbA.size; omega) _ _))
      (first
        | (go_at_call 59; refine (singleRule_own _).mono ?_; rintro e w3 ⟨g, rfl, hG3, hb3⟩; have hbA : Below w2.heap.size w2 w3 := (by first | exact ofDrew hb3 | exact (hal _).trans (hb3.mono (by simp))); have HGX := Lib.hid (fun (X : World) (h : Below w3.heap.size w3 X) => (h.block g (block_lt hG3)).trans hG3); first | (have hVa := (hb3.block _ (by simp)).trans (HZ.out _); have hv0 := cell_of_block hVa 0; have hv1 := cell_of_block hVa 1; simp at hv0 hv1; have hz0 := frozen_of_block hVa 0; have hz1 := frozen_of_block hVa 1; have HVa := Lib.hid hVa; have hVla := block_lt hVa; clear hVa) | skip)
        | (go_at_call 96; refine (HP.out g _ (HGX.out _ (by first | exact Below.refl _ _ | exact (Below.refl _ _).alloc (Nat.le_refl _) _))).mono ?_; rintro e w5 ⟨rfl, hb5⟩; have hbC : Below w2.heap.size w2 w5 := (by first | exact hbA.trans (hb5.mono hbA.size) | exact (hbA.alloc hbA.size _).trans (hb5.mono (by have := hbA.size; simp; omega))); first | (have hVc := (hb5.block _ hVla).trans HVa.out; have hv0 := cell_of_block hVc 0; have hv1 := cell_of_block hVc 1; simp at hv0 hv1; have hz0 := frozen_of_block hVc 0; have hz1 := frozen_of_block hVc 1; have HVc := Lib.hid hVc; have hVlc := block_lt hVc; clear hVc) | (have hVc := (hb5.block _ (by simp)).trans (HZ.out _); have hv0 := cell_of_block hVc 0; have hv1 := cell_of_block hVc 1; simp at hv0 hv1; have hz0 := frozen_of_block hVc 0; have hz1 := frozen_of_block hVc 1; have HVc := Lib.hid hVc; have hVlc := block_lt hVc; clear hVc) | skip))
    all_goals
      go_wp2_with fail
      go_meet
      first
        | exact ⟨w5.heap.size, rfl, heap_alloc_new w5 _, hbC.alloc hbC.size _⟩
        | (have b2 := block_set (block_set HVc.out 0 (.int .u64 m1)) 1 (.int .u64 m2)
           simp at b2
           exact ⟨_, rfl, b2, Below.setCell2 hbC (by have := hbA.size; omega) _ _⟩)
  case rest =>
    obtain ⟨V, rfl, hV, hbx⟩ := hcut
    have x0 : wc.cell? ⟨V, 0, none⟩ = some (.int .u64 m1) := by rw [cell_of_block hV.out]; rfl
    have x1 : wc.cell? ⟨V, 1, none⟩ = some (.int .u64 m2) := by rw [cell_of_block hV.out]; rfl
    have hvl := block_lt hV.out
    have hbw := hb05.trans (hbx.mono hb05.size)
    have hTw := hT0.later hbw
    have HX := Lib.hid (fun w' (h : Below wc.heap.size wc w') => (⟨(h.cell (p := ⟨V, 0, none⟩) hvl).trans x0, (h.cell (p := ⟨V, 1, none⟩) hvl).trans x1⟩ : w'.cell? ⟨V, 0, none⟩ = some (.int .u64 m1) ∧ w'.cell? ⟨V, 1, none⟩ = some (.int .u64 m2)))
    have hdw : Below wc.heap.size wc wc.drew := toDrew (Below.refl _ wc)
    have HC1 := Lib.hid (fun w' (h : Below wc.heap.size wc w') => HA1.out w' (hTw.later h))
    have HC2 := Lib.hid (fun w' (h : Below wc.heap.size wc w') => HA2.out w' (hTw.later h))
    clear HA1 HA2 hdr hal n0 n1 n2 HA hb05 hbx HP HZ hTw hT0
    go_wp2_with fail
    go_region_held3 (fun w' => w'.cell? ⟨V, 0, none⟩ = some (.int .u64 m1) ∧ w'.cell? ⟨V, 1, none⟩ = some (.int .u64 m2))
      (first | with_reducible exact HX.out _ hdw | with_reducible exact HX.out _ hbA | with_reducible exact HX.out _ hbB)
      (first
        | (go_at_call 41; ((with_reducible refine (HC1.out _ (by first | exact hdw | exact hbB)).mono ?_); rintro e w5 ⟨a1, c1, rfl, ho1, hb5⟩; have hbA : Below wc.heap.size wc w5 := (by first | exact hbB.trans (hb5.mono hbB.size) | exact ofDrew hb5)))
        | (go_at_call 41; ((with_reducible refine (HC2.out _ (by first | exact hdw | exact hbA)).mono ?_); rintro e w6 ⟨a2, c2, rfl, ho2, hb6⟩; have hbB : Below wc.heap.size wc w6 := (by first | exact hbA.trans (hb6.mono hbA.size) | exact ofDrew hb6))))
    all_goals
      go_wp2_with fail
      go_ret3
      first
        | exact ⟨a1, c1, a2, c2, rfl, (ho1.later hb6).mono (Nat.le_trans hbw.size hdw.size), ho2.mono (Nat.le_trans hbw.size hbA.size), fun i j hi hj => by have := (ho1.lt i hi).2; have := (ho2.lt j hj).1; omega, hbw.trans (hbB.mono hbw.size)⟩
        | exact ⟨a1, c1, a2, c2, rfl, ho1.mono (Nat.le_trans hbw.size hbB.size), (ho2.later hb5).mono (Nat.le_trans hbw.size hdw.size), fun i j hi hj => by have := (ho2.lt j hj).2; have := (ho1.lt i hi).1; omega, hbw.trans (hbA.mono hbw.size)⟩
end Go.Proofs.YthlbplmghjaeoabDoor

/- Notes: SingleFinds by the model. -/
namespace Go.Proofs.YthlbplmghjaeoabDoor
open Go.RowKit

theorem opC_nil (c : Int) : opC [] c = false := by
  have : inC 0 c = false := by simp [inC]
  rw [opC, List.length_nil, this]; rfl
theorem siOK_eq (l : List UInt8) (c : Int) : siOK l c = (isB l && opC (grC noteSign l) c) := by
  rw [siOK]
  cases h : isB l with
  | true => rw [(sn_yes h).2.2]; rfl
  | false => rw [(sn_no h).2.2, opC_nil]; rfl
theorem siP_off {l : List UInt8} {c : Int} (h : siOK l c = false) : siP l c = ([], []) := by
  rw [siOK] at h
  rw [siP, ocN, h]
  exact pair_none _
theorem siP_on {l : List UInt8} {k : Nat} (hs : isB l = true) (h : siOK l k = true) : siP l k = singL (nrS (grC noteSign l) (grW noteSign l) k 63) (restM (grC noteSign l) (grW noteSign l) k) := by
  rw [siOK] at h
  rw [siP, ocN, ocR, if_pos h, if_pos h, (sn_yes hs).1, (sn_yes hs).2.2, Int.sub_zero, pair_sing]
  rfl

set_option maxRecDepth 100000 in
set_option maxHeartbeats 800000 in
theorem ruAsked_any (l : List UInt8) (c : Int) (w : World) (hl : l.length ≤ 1048576) :
    Calls Tryd.prog 56 #[.string ⟨l.toArray⟩, .int .i64 c] w fun e w' => e = .returned (.bool (siOK l c)) ∧ Below w.heap.size w w' := by
  have h1 := fun w => ruCell_any l c w hl
  rw [siOK_eq]
  rcases opC_case (grC noteSign l) c with ⟨hi, ho⟩ | ⟨k, rfl, hk, hi, hop⟩
  · rw [ho, Bool.and_false]
    rw [hi] at h1
    clear hi ho
    go_enter Tryd.func56, Tryd.ntmps56
    go_wp2_with fail
    refine (h1 _).mono ?_
    rintro e w1 ⟨rfl, hb⟩
    go_wp2_with fail
    go_ret
    exact ⟨rfl, hb⟩
  · rw [hi] at h1
    have hg : gridM noteSign l = true := by
      cases hg : gridM noteSign l with
      | true => rfl
      | false => rw [grC_none hg] at hk; simp at hk
    obtain ⟨hB, hsg⟩ := Grd.note hg
    have HS := Lib.hid (fun w => ruSound_any l _ _ _ hB hsg w hl)
    have HI : isB l = soundM (grC noteSign l) (grW noteSign l) := by rw [isB, hg, Bool.true_and]
    rw [← HI] at HS
    clear HI
    cases hs : isB l with
    | false =>
      rw [hs] at HS
      rw [Bool.false_and]
      clear hs hB hsg hg hop hi
      go_enter Tryd.func56, Tryd.ntmps56
      go_wp2_with fail
      refine (h1 _).mono ?_
      rintro e w1 ⟨rfl, hb⟩
      go_wp2_with fail
      refine (HS.out _).mono ?_
      rintro e w2 ⟨rfl, hb2⟩
      go_wp2_with fail
      go_ret
      exact ⟨rfl, hb.trans (hb2.mono hb.size)⟩
    | true =>
      rw [hs] at HS
      rw [Bool.true_and]
      have hbc := Lib.hid (fun w => boCells_any l w hl)
      rw [hB.cs] at hbc
      have h64 := grC_le noteSign l
      have hgd : (grC noteSign l).getD k 0 = (grC noteSign l)[k] := by simp [List.getD, hk]
      have hro := fun w => ruOpen_any (grC noteSign l)[k] w
      have HO : digSign (grC noteSign l)[k] = opC (grC noteSign l) k := by rw [hop, opB, hgd]
      rw [HO] at hro
      have HRO := Lib.hid hro
      clear hs hB hsg hg hop hi hgd hro HO
      generalize opC (grC noteSign l) k = ok at *
      go_enter Tryd.func56, Tryd.ntmps56
      go_wp2_with fail
      refine (h1 _).mono ?_
      rintro e w1 ⟨rfl, hb⟩
      go_wp2_with fail
      refine (HS.out _).mono ?_
      rintro e w2 ⟨rfl, hb2⟩
      go_wp2_with fail
      refine (hbc.out _).mono ?_
      rintro e w3 ⟨rfl, rfl⟩
      go_wp2_with fail
      refine (HRO.out _).mono ?_
      rintro e w3 ⟨rfl, rfl⟩
      go_wp2_with fail
      go_ret
      exact ⟨rfl, hb.trans (hb2.mono hb.size)⟩

set_option maxRecDepth 100000 in
set_option maxHeartbeats 800000 in
theorem sSingleFinds_any (l : List UInt8) (c : Int) (w : World) (hl : l.length ≤ 1048576) :
    Calls Tryd.prog 29 #[.string ⟨l.toArray⟩, .int .i64 c] w fun e w' => ∃ a1 c1 a2 c2, e = .returned (.tuple #[.slice a1 (siP l c).1.length c1, .slice a2 (siP l c).2.length c2, .bool (siOK l c)])
      ∧ Owns w' w.heap.size 3 (.slice a1 (siP l c).1.length c1) (nats (siP l c).1) ∧ Owns w' w.heap.size 3 (.slice a2 (siP l c).2.length c2) (nats (siP l c).2) ∧ Below w.heap.size w w' := by
  have h1 := fun w => ruAsked_any l c w hl
  cases ho : siOK l c with
  | false =>
    rw [ho] at h1
    have HP := Lib.hid (siP_off ho)
    clear ho
    go_enter Tryd.func29, Tryd.ntmps29
    go_wp2_with fail
    refine (h1 _).mono ?_
    rintro e w1 ⟨rfl, hb⟩
    go_wp2_with fail
    go_ret3
    exact ⟨none, 0, none, 0, by rw [HP.out]; rfl, by rw [HP.out]; exact Owns.nil _ _ _, by rw [HP.out]; exact Owns.nil _ _ _, hb⟩
  | true =>
    rw [ho] at h1
    have h2 := siOK_eq l c
    rw [ho] at h2
    have hs : isB l = true := by cases h : isB l with | true => rfl | false => rw [h] at h2; cases h2
    rcases opC_case (grC noteSign l) c with ⟨hi, ho2⟩ | ⟨k, rfl, hk, hi, hop⟩
    · rw [ho2, Bool.and_false] at h2; cases h2
    · have hob : opB (grC noteSign l) k = true := by rw [← hop]; rw [hs, Bool.true_and] at h2; exact h2.symm
      have hg : gridM noteSign l = true := by
        cases hg : gridM noteSign l with
        | true => rfl
        | false => rw [grC_none hg] at hk; simp at hk
      have HSI := Lib.hid (fun w => ruSingle_any l _ _ _ (Grd.of hg) k hk hob w hl)
      have hP := siP_on hs ho
      rw [← hP] at HSI
      clear hP hg hob hop hi hk hs h2 ho
      go_enter Tryd.func29, Tryd.ntmps29
      go_wp2_with fail
      refine (h1 _).mono ?_
      rintro e w1 ⟨rfl, hb⟩
      go_wp2_with fail
      refine (HSI.out _).mono ?_
      rintro e w2 ⟨a1, c1, a2, c2, rfl, ho1, ho2, hb2⟩
      go_wp2_with fail
      go_ret3
      exact ⟨a1, c1, a2, c2, rfl, ho1.mono hb.size, ho2.mono hb.size, hb.trans (hb2.mono hb.size)⟩
end Go.Proofs.YthlbplmghjaeoabDoor
