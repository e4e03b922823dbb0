/- Counts by the model: boards with a free cell whose number is 0. -/
import Derived.Test.YthlbplmghjaeoacJA
import Derived.Outline
namespace Go.Proofs.Ythlbplmghjaeoac
open Go.RowKit

/-- Is a cell free, with no mine beside it? -/
def zfB (cells : List UInt8) (W k : Nat) : Bool := !decide (cells.getD k 0 = 42) && decide (numM cells W k = 0)
def zrB (W : Nat) (cells : List UInt8) : Bool := (List.range cells.length).any (zfB cells W)
/-- What CountZeroBoards hands back. -/
def czM (w h m : Int) : Nat := if cbB w h m = true then ((allM (w.toNat * h.toNat) m).filter (zrB w.toNat)).length else 0

end Go.Proofs.Ythlbplmghjaeoac
