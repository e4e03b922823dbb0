/- Notes: SingleFinds by the model. -/
import Derived.Test.YtcgnfgdoojjnfabDoorD3
import Derived.Outline
namespace Go.Proofs.YtcgnfgdoojjnfabDoor
open Go.RowKit

theorem opC_nil (c : Int) : opC [] c = false := by
  have : inC 0 c = false := by simp [inC]
  rw [opC, List.length_nil, this]; rfl
theorem siOK_eq (l : List UInt8) (c : Int) : siOK l c = (isB l && opC (grC noteSign l) c) := by
  rw [siOK]
  cases h : isB l with
  | true => rw [(sn_yes h).2.2]; rfl
  | false => rw [(sn_no h).2.2, opC_nil]; rfl
theorem siP_off {l : List UInt8} {c : Int} (h : siOK l c = false) : siP l c = ([], []) := by
  rw [siOK] at h
  rw [siP, ocN, h]
  exact pair_none _
theorem siP_on {l : List UInt8} {k : Nat} (hs : isB l = true) (h : siOK l k = true) : siP l k = singL (nrS (grC noteSign l) (grW noteSign l) k 63) (restM (grC noteSign l) (grW noteSign l) k) := by
  rw [siOK] at h
  rw [siP, ocN, ocR, if_pos h, if_pos h, (sn_yes hs).1, (sn_yes hs).2.2, Int.sub_zero, pair_sing]
  rfl

set_option maxRecDepth 100000 in
set_option maxHeartbeats 800000 in
theorem ruAsked_any (l : List UInt8) (c : Int) (w : World) (hl : l.length ≤ 1048576) :
    Calls Tryd.prog 34 #[.string ⟨l.toArray⟩, .int .i64 c] w fun e w' => e = .returned (.bool (siOK l c)) ∧ Below w.heap.size w w' := by
  have h1 := fun w => ruCell_any l c w hl
  rw [siOK_eq]
  rcases opC_case (grC noteSign l) c with ⟨hi, ho⟩ | ⟨k, rfl, hk, hi, hop⟩
  · rw [ho, Bool.and_false]
    rw [hi] at h1
    clear hi ho
    go_enter Tryd.func34, Tryd.ntmps34
    go_wp2_with fail
    refine (h1 _).mono ?_
    rintro e w1 ⟨rfl, hb⟩
    go_wp2_with fail
    go_ret
    exact ⟨rfl, hb⟩
  · rw [hi] at h1
    have hg : gridM noteSign l = true := by
      cases hg : gridM noteSign l with
      | true => rfl
      | false => rw [grC_none hg] at hk; simp at hk
    obtain ⟨hB, hsg⟩ := Grd.note hg
    have HS := Lib.hid (fun w => ruSound_any l _ _ _ hB hsg w hl)
    have HI : isB l = soundM (grC noteSign l) (grW noteSign l) := by rw [isB, hg, Bool.true_and]
    rw [← HI] at HS
    clear HI
    cases hs : isB l with
    | false =>
      rw [hs] at HS
      rw [Bool.false_and]
      clear hs hB hsg hg hop hi
      go_enter Tryd.func34, Tryd.ntmps34
      go_wp2_with fail
      refine (h1 _).mono ?_
      rintro e w1 ⟨rfl, hb⟩
      go_wp2_with fail
      refine (HS.out _).mono ?_
      rintro e w2 ⟨rfl, hb2⟩
      go_wp2_with fail
      go_ret
      exact ⟨rfl, hb.trans (hb2.mono hb.size)⟩
    | true =>
      rw [hs] at HS
      rw [Bool.true_and]
      have hbc := Lib.hid (fun w => boCells_any l w hl)
      rw [hB.cs] at hbc
      have h64 := grC_le noteSign l
      have hgd : (grC noteSign l).getD k 0 = (grC noteSign l)[k] := by simp [List.getD, hk]
      have hro := fun w => ruOpen_any (grC noteSign l)[k] w
      have HO : digSign (grC noteSign l)[k] = opC (grC noteSign l) k := by rw [hop, opB, hgd]
      rw [HO] at hro
      have HRO := Lib.hid hro
      clear hs hB hsg hg hop hi hgd hro HO
      generalize opC (grC noteSign l) k = ok at *
      go_enter Tryd.func34, Tryd.ntmps34
      go_wp2_with fail
      refine (h1 _).mono ?_
      rintro e w1 ⟨rfl, hb⟩
      go_wp2_with fail
      refine (HS.out _).mono ?_
      rintro e w2 ⟨rfl, hb2⟩
      go_wp2_with fail
      refine (hbc.out _).mono ?_
      rintro e w3 ⟨rfl, rfl⟩
      go_wp2_with fail
      refine (HRO.out _).mono ?_
      rintro e w3 ⟨rfl, rfl⟩
      go_wp2_with fail
      go_ret
      exact ⟨rfl, hb.trans (hb2.mono hb.size)⟩

set_option maxRecDepth 100000 in
set_option maxHeartbeats 800000 in
theorem sSingleFinds_any (l : List UInt8) (c : Int) (w : World) (hl : l.length ≤ 1048576) :
    Calls Tryd.prog 13 #[.string ⟨l.toArray⟩, .int .i64 c] w fun e w' => ∃ a1 c1 a2 c2, e = .returned (.tuple #[.slice a1 (siP l c).1.length c1, .slice a2 (siP l c).2.length c2, .bool (siOK l c)])
      ∧ Owns w' w.heap.size 3 (.slice a1 (siP l c).1.length c1) (nats (siP l c).1) ∧ Owns w' w.heap.size 3 (.slice a2 (siP l c).2.length c2) (nats (siP l c).2) ∧ Below w.heap.size w w' := by
  have h1 := fun w => ruAsked_any l c w hl
  cases ho : siOK l c with
  | false =>
    rw [ho] at h1
    have HP := Lib.hid (siP_off ho)
    clear ho
    go_enter Tryd.func13, Tryd.ntmps13
    go_wp2_with fail
    refine (h1 _).mono ?_
    rintro e w1 ⟨rfl, hb⟩
    go_wp2_with fail
    go_ret3
    exact ⟨none, 0, none, 0, by rw [HP.out]; rfl, by rw [HP.out]; exact Owns.nil _ _ _, by rw [HP.out]; exact Owns.nil _ _ _, hb⟩
  | true =>
    rw [ho] at h1
    have h2 := siOK_eq l c
    rw [ho] at h2
    have hs : isB l = true := by cases h : isB l with | true => rfl | false => rw [h] at h2; cases h2
    rcases opC_case (grC noteSign l) c with ⟨hi, ho2⟩ | ⟨k, rfl, hk, hi, hop⟩
    · rw [ho2, Bool.and_false] at h2; cases h2
    · have hob : opB (grC noteSign l) k = true := by rw [← hop]; rw [hs, Bool.true_and] at h2; exact h2.symm
      have hg : gridM noteSign l = true := by
        cases hg : gridM noteSign l with
        | true => rfl
        | false => rw [grC_none hg] at hk; simp at hk
      have HSI := Lib.hid (fun w => ruSingle_any l _ _ _ (Grd.of hg) k hk hob w hl)
      have hP := siP_on hs ho
      rw [← hP] at HSI
      clear hP hg hob hop hi hk hs h2 ho
      go_enter Tryd.func13, Tryd.ntmps13
      go_wp2_with fail
      refine (h1 _).mono ?_
      rintro e w1 ⟨rfl, hb⟩
      go_wp2_with fail
      refine (HSI.out _).mono ?_
      rintro e w2 ⟨a1, c1, a2, c2, rfl, ho1, ho2, hb2⟩
      go_wp2_with fail
      go_ret3
      exact ⟨a1, c1, a2, c2, rfl, ho1.mono hb.size, ho2.mono hb.size, hb.trans (hb2.mono hb.size)⟩
end Go.Proofs.YtcgnfgdoojjnfabDoor
