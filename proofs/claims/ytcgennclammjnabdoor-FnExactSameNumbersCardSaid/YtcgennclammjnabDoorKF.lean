/- Listed boards by the program: the first board that meets something. -/
import Derived.Test.YtcgennclammjnabDoorKE
import Derived.Shelf.SlicesQ.IndexFunc
import Derived.Outline
namespace Go.Proofs.YtcgennclammjnabDoor
open Go.RowKit


end Go.Proofs.YtcgennclammjnabDoor
