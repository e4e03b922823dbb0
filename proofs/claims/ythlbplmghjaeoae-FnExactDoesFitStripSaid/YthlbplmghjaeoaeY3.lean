/- Opening: the neighbours that were not open, by the program. -/
import Derived.Test.YthlbplmghjaeoaeY2
import Derived.Outline
namespace Go.Proofs.Ythlbplmghjaeoae
open Go.RowKit

end Go.Proofs.Ythlbplmghjaeoae
