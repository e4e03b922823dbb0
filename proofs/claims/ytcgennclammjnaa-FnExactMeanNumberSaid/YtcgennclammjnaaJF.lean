/- Counts by the model: boards by a number of a cell. -/
import Derived.Test.YtcgennclammjnaaJE
import Derived.Outline
namespace Go.Proofs.Ytcgennclammjnaa
open Go.RowKit

end Go.Proofs.Ytcgennclammjnaa
