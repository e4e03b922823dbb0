/- Opening: the cells that a click opens, by the program. -/
import Derived.Test.YtajabfegeeepeaaY5
import Derived.Outline
namespace Go.Proofs.Ytajabfegeeepeaa
open Go.RowKit


/-- The cells that a click on a cell opens, increasing. -/
def opM (cells : List UInt8) (W c : Nat) : List Nat := sortM cells.length (bfs (nearM W cells.length) (zeroB cells W) [] cells.length 0 [c])
theorem opM_le (cells : List UInt8) (W c : Nat) : (opM cells W c).length ≤ cells.length := sortM_le _ _

end Go.Proofs.Ytajabfegeeepeaa
