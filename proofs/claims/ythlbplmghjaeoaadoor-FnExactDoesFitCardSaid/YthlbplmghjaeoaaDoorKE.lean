/- Listed boards by the program: all boards of a size. -/
import Derived.Test.YthlbplmghjaeoaaDoorKD
import Derived.Outline
namespace Go.Proofs.YthlbplmghjaeoaaDoor
open Go.RowKit

end Go.Proofs.YthlbplmghjaeoaaDoor
