/- Counts by the model: how many boards have a sum. -/
import Derived.Test.YtajabfegeeepeaaJH
import Derived.Outline
namespace Go.Proofs.Ytajabfegeeepeaa
open Go.RowKit

/-- What SumCounts hands back. -/
def scM (w h : Int) : List (List Nat) := if szB w h 12 = true then smR w.toNat h.toNat else []
theorem scM_len (w h : Int) : (scM w h).length ≤ 1048576 := by
  rw [scM]
  split
  · exact Nat.le_trans (smK_le _ _ _) (by decide)
  · simp
theorem scM_rows (w h : Int) : ∀ r ∈ scM w h, r.length ≤ 1048576 := by
  intro r hr
  rw [scM] at hr
  split at hr
  · rw [smR, smK, List.mem_map] at hr
    obtain ⟨s, _, rfl⟩ := hr
    simp
  · simp at hr
/-- What CountWithSum hands back. -/
def cwB (w h s : Int) : Bool := szB w h 12 && inB s 0 500
def cwM (w h s : Int) : Nat := if cwB w h s = true then cntA w.toNat (allM (w.toNat * h.toNat) (-1)) s.toNat else 0


theorem smK_mem {W : Nat} {L : List (List UInt8)} {n : Nat} {x : List Nat} (h : x ∈ smK W L n) : ∃ s, s < n ∧ 0 < cntA W L s ∧ x = [s, cntA W L s] := by
  rw [smK] at h
  obtain ⟨s, hs, he⟩ := List.mem_map.1 h
  obtain ⟨h1, h2⟩ := List.mem_filter.1 hs
  exact ⟨s, List.mem_range.1 h1, of_decide_eq_true h2, he.symm⟩
theorem smK_get (W : Nat) (L : List (List UInt8)) (k : Nat) (h : k < (smK W L 501).length) : ∃ s, s ≤ 500 ∧ 0 < cntA W L s ∧ (smK W L 501)[k] = [s, cntA W L s] := by
  obtain ⟨s, h1, h2, h3⟩ := smK_mem (List.getElem_mem h)
  exact ⟨s, Nat.le_of_lt_succ h1, h2, h3⟩
theorem smK_in (W : Nat) (L : List (List UInt8)) (n s : Nat) (hs : s < n) (h : 0 < cntA W L s) : [s, cntA W L s] ∈ smK W L n := by
  rw [smK]
  exact List.mem_map.2 ⟨s, List.mem_filter.2 ⟨List.mem_range.2 hs, decide_eq_true h⟩, rfl⟩
theorem smK_has (W : Nat) (L : List (List UInt8)) (s : Nat) (hs : s ≤ 500) (h : 0 < cntA W L s) : ∃ k, ∃ hk : k < (smK W L 501).length, (smK W L 501)[k] = [s, cntA W L s] :=
  List.mem_iff_getElem.1 (smK_in W L 501 s (Nat.lt_succ_of_le hs) h)

end Go.Proofs.Ytajabfegeeepeaa
