/- Views: whether a text is one, and its hidden cells, by the program and by the model. -/
import Derived.Test.YteajhjiibenenaaDoorW3
import Derived.Outline
namespace Go.Proofs.YteajhjiibenenaaDoor
open Go.RowKit

theorem view_yes {l : List UInt8} (h : viewM l = true) : gridM viewSign l = true ∧ vC l = cellsM l ∧ (hidM (cellsM l)).length ≤ 14 := by
  have h2 := h
  unfold viewM at h2
  rw [Bool.and_eq_true, hid_places, decide_eq_true_iff] at h2
  exact ⟨h2.1, by rw [vC, if_pos h, grC, if_pos h2.1], h2.2⟩
theorem vC_none {l : List UInt8} (h : viewM l = false) : vC l = [] := by rw [vC, if_neg (by rw [h]; decide)]
theorem vC_le (l : List UInt8) : (vC l).length ≤ 64 := by
  unfold vC
  split
  · exact grC_le _ _
  · simp
def hidV (l : List UInt8) : List Nat := hidM (vC l)
theorem hidV_len (l : List UInt8) : (hidV l).length ≤ 1048576 := by
  have := filtM_le (unsB (vC l)) (vC l).length
  have := vC_le l
  unfold hidV hidM; omega


end Go.Proofs.YteajhjiibenenaaDoor
