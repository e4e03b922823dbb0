/- Opening: the neighbours that were not open, by the program. -/
import Derived.Test.YthlbplmghjaeoaaDoorY2
import Derived.Outline
namespace Go.Proofs.YthlbplmghjaeoaaDoor
open Go.RowKit

end Go.Proofs.YthlbplmghjaeoaaDoor
