/- Views: a cell hidden again, by the program. -/
import Derived.Test.YteajhjiibenenaaDoorW5
import Derived.Outline
namespace Go.Proofs.YteajhjiibenenaaDoor
open Go.RowKit

theorem vSize (l : List UInt8) : (vW l = 0 ∧ vH l = 0) ∨ ((1 ≤ vW l ∧ vW l ≤ 8) ∧ (1 ≤ vH l ∧ vH l ≤ 8)) := by
  unfold vW vH
  split
  · exact grSize _ _
  · exact .inl ⟨rfl, rfl⟩
theorem vC_len (l : List UInt8) : (vC l).length = vW l * vH l := by
  unfold vW vH vC
  split
  · exact grC_len _ _
  · rfl

end Go.Proofs.YteajhjiibenenaaDoor
