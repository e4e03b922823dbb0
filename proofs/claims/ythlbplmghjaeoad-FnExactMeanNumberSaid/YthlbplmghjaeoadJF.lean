/- Counts by the model: boards by a number of a cell. -/
import Derived.Test.YthlbplmghjaeoadJE
import Derived.Outline
namespace Go.Proofs.Ythlbplmghjaeoad
open Go.RowKit

end Go.Proofs.Ythlbplmghjaeoad
