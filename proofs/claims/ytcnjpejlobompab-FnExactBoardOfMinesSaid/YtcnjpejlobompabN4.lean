/- Walks: the number of a cell, by the model and by the program. -/
import Derived.Test.YtcnjpejlobompabN0
import Derived.Outline
namespace Go.Proofs.Ytcnjpejlobompab
open Go.RowKit


end Go.Proofs.Ytcnjpejlobompab
