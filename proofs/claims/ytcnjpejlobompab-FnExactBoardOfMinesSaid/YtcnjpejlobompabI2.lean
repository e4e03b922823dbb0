/- Walks: the program reads a board. -/
import Derived.Test.YtcnjpejlobompabI1
import Derived.Test.YtcnjpejlobompabSp
import Derived.Outline
namespace Go.Proofs.Ytcnjpejlobompab
open Go.RowKit

end Go.Proofs.Ytcnjpejlobompab
