/- Listed boards by the program: the first board that meets something. -/
import Derived.Test.YthlbplmghjaeoaaDoorKE
import Derived.Shelf.SlicesQ.IndexFunc
import Derived.Outline
namespace Go.Proofs.YthlbplmghjaeoaaDoor
open Go.RowKit


end Go.Proofs.YthlbplmghjaeoaaDoor
