/- Walks: neighbours, the number of a cell and all numbers, by the model and by the program. -/
import Derived.Test.YtajabfegeeepeaaN5
import Derived.Test.YtajabfegeeepeaaE
import Derived.Outline
namespace Go.Proofs.Ytajabfegeeepeaa
open Go.RowKit

/-- Whether there are a board and a cell. -/
def cellOK (l : List UInt8) (c : Int) : Bool := boGoodM l && inB c 0 ((cellsM l).length - 1)
theorem cellOK_yes {l : List UInt8} {c : Int} (h : cellOK l c = true) : boGoodM l = true ∧ ∃ k : Nat, c = k ∧ k < (cellsM l).length := by
  simp [cellOK, inB] at h
  exact ⟨h.1, c.toNat, by omega, by omega⟩
theorem cells_le72 {l : List UInt8} (h : boGoodM l = true) : (cellsM l).length ≤ 64 := (Brd.of h).n64


end Go.Proofs.Ytajabfegeeepeaa
