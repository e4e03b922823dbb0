/- Opening: the cells that a click opens, by the program. -/
import Derived.Test.YthlbplmghjaeoaeY5
import Derived.Outline
namespace Go.Proofs.Ythlbplmghjaeoae
open Go.RowKit


/-- The cells that a click on a cell opens, increasing. -/
def opM (cells : List UInt8) (W : Geo) (c : Nat) : List Nat := sortM cells.length (bfs (nearM W cells.length) (zeroB cells W) [] cells.length 0 [c])
theorem opM_le (cells : List UInt8) (W : Geo) (c : Nat) : (opM cells W c).length ≤ cells.length := sortM_le _ _

end Go.Proofs.Ythlbplmghjaeoae
