/- Counts by the model: boards by a number of a cell. -/
import Derived.Test.YthlbplmghjaeoacJE
import Derived.Outline
namespace Go.Proofs.Ythlbplmghjaeoac
open Go.RowKit

end Go.Proofs.Ythlbplmghjaeoac
