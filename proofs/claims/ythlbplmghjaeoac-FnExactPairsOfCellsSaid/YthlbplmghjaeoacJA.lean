/- Counts by the model: how few mines are beside all cells, and the first such board. -/
import Derived.Test.YthlbplmghjaeoacJ9
import Derived.Outline
namespace Go.Proofs.Ythlbplmghjaeoac
open Go.RowKit

/-- What FewestNear hands back. -/
def fnM (w h : Int) : Nat := if szB w h 12 = true then (places 42 (nearT w.toNat h.toNat)).length else 0

/-- What FirstNear hands back. -/
def frM (w h : Int) : List UInt8 := if szB w h 12 = true then textM (nearT w.toNat h.toNat) w.toNat h.toNat else []

end Go.Proofs.Ythlbplmghjaeoac
