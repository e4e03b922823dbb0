/- Views: what it means that a board fits (plain), and what the model asks, walked. -/
import Derived.Test.YtndmkbkmfonefadDoorWJ
import Derived.Outline
namespace Go.Proofs.YtndmkbkmfonefadDoor
open Go.RowKit

theorem sub_num {vc bc : List UInt8} {W k : Nat} (hn : bc.length = vc.length) (hs : ∀ j, j < vc.length → mineB bc j = true → unsB vc j = true) : numV vc W (mineB bc) k = numM bc W k := by
  rw [numM, countAt_filter, nearM_filter, numV, hidM, filtM, filtM, List.filter_filter, List.filter_filter, hn]
  congr 1
  refine List.filter_congr (fun j hj => ?_)
  have hj2 := List.mem_range.1 hj
  show (mineB bc j && nbW W k j && unsB vc j) = (mineB bc j && nbW W k j)
  cases hm : mineB bc j with
  | false => rfl
  | true => rw [hs j hj2 hm, Bool.and_true]
theorem sub_count {vc bc : List UInt8} (hn : bc.length = vc.length) : ((hidM vc).filter (mineB bc)).length = (places 42 bc).length ↔ ∀ j, j < vc.length → mineB bc j = true → unsB vc j = true := by
  have e1 : (hidM vc).filter (mineB bc) = (List.range vc.length).filter (fun j => mineB bc j && unsB vc j) := by
    rw [hidM, filtM, List.filter_filter]
  have e2 : (places 42 bc).length = ((List.range vc.length).filter (mineB bc)).length := by rw [mines_count, hn]; rfl
  rw [e1, e2]
  constructor
  · intro h
    refine filt_sub (p := unsB vc) ?_
    rw [← h]
    congr 1
    exact List.filter_congr (fun j _ => Bool.and_comm _ _)
  · intro h
    congr 1
    refine List.filter_congr (fun j hj => ?_)
    cases hm : mineB bc j with
    | false => rfl
    | true => rw [h j (List.mem_range.1 hj) hm]; rfl
theorem dig_eq (c : UInt8) (m : Nat) (hm : m ≤ 8) (hc : digSign c = true) : (c == digB m) = (m == c.toNat - 48) := by
  have h1 := digB_nat m (by omega)
  simp [digSign] at hc
  by_cases h : m = c.toNat - 48
  · have e : c = digB m := UInt8.toNat_inj.1 (by omega)
    rw [beq_iff_eq.2 e, beq_iff_eq.2 h]
  · have e : ¬ c = digB m := fun q => h (by rw [q, h1]; omega)
    rw [beq_eq_false_iff_ne.2 e, beq_eq_false_iff_ne.2 h]
/-- The program's test and the model's are the same. -/
theorem fb_eq {vc bc : List UInt8} {W H : Nat} (hW : W ≤ 8) (hH : H ≤ 8) (hv : vc.length = W * H) (hn : bc.length = vc.length) (hsg : ∀ c ∈ vc, viewSign c = true) : fbM vc bc W = viFitsM vc bc W := by
  have h8 : ∀ k, k < vc.length → numV vc W (mineB bc) k ≤ 8 := fun k hk => numV_le _ hW hH hv hk
  have hvs : ∀ k, k < vc.length → (unsB vc k = true ∨ digSign (vc.getD k 0) = true) ∧ (unsB vc k = true → digSign (vc.getD k 0) = false) := by
    intro k hk
    have h1 := hsg (vc[k]) (List.getElem_mem hk)
    have e : vc.getD k 0 = vc[k] := by simp [List.getD, hk]
    rw [unsB, e]
    constructor
    · simpa [viewSign] using h1
    · intro q
      rw [beq_iff_eq.1 q]
      rfl
  rw [Bool.eq_iff_iff, fbM, Bool.and_eq_true, decide_eq_true_iff, sub_count hn, fitsM, viFitsM, List.all_eq_true, List.all_eq_true]
  constructor
  · rintro ⟨hs, hf⟩ k hk
    have hk2 := List.mem_range.1 hk
    obtain ⟨h1, h2⟩ := hvs k hk2
    have h3 := hf k hk
    by_cases hu : unsB vc k = true
    · have : (vc.getD k 0 == 63) = true := hu
      rw [this]; rfl
    · have hd := h1.resolve_left hu
      have hm : mineB bc k = false := by
        cases hm : mineB bc k with
        | false => rfl
        | true => exact absurd (hs k hk2 hm) hu
      have hm2 : (bc.getD k 0 == 42) = false := hm
      rw [hd, dig_eq _ _ (h8 k hk2) hd, sub_num hn hs] at h3
      rw [hm2]
      simp at h3
      simp [h3]
  · intro h
    have hs : ∀ j, j < vc.length → mineB bc j = true → unsB vc j = true := by
      intro j hj hm
      have h3 := h j (List.mem_range.2 hj)
      have hm2 : (bc.getD j 0 == 42) = true := hm
      rw [hm2] at h3
      simpa [unsB] using h3
    refine ⟨hs, fun k hk => ?_⟩
    have hk2 := List.mem_range.1 hk
    obtain ⟨h1, h2⟩ := hvs k hk2
    have h3 := h k hk
    by_cases hu : unsB vc k = true
    · rw [h2 hu]; rfl
    · have hd := h1.resolve_left hu
      have hu2 : (vc.getD k 0 == 63) = false := by simpa [unsB] using hu
      rw [hd, dig_eq _ _ (h8 k hk2) hd, sub_num hn hs]
      rw [hu2] at h3
      simp at h3
      simp [h3.2]
end Go.Proofs.YtndmkbkmfonefadDoor
