/- Listed boards by the program: the first board that meets something. -/
import Derived.Test.YthlbplmghjaeoaeDoorKE
import Derived.Shelf.SlicesQ.IndexFunc
import Derived.Outline
namespace Go.Proofs.YthlbplmghjaeoaeDoor
open Go.RowKit


end Go.Proofs.YthlbplmghjaeoaeDoor
