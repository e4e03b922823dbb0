/- Walks: the number of a cell, by the model and by the program. -/
import Derived.Test.YthlbplmghjaeoacN0
import Derived.Outline
namespace Go.Proofs.Ythlbplmghjaeoac
open Go.RowKit


end Go.Proofs.Ythlbplmghjaeoac
