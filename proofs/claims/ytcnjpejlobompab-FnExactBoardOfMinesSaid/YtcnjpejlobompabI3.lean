/- Walks: the program reads what is no board. -/
import Derived.Test.YtcnjpejlobompabI2
import Derived.Outline
namespace Go.Proofs.Ytcnjpejlobompab
open Go.RowKit

/-- What readBoard hands back of a text that is no board. -/
def NoGrid : Value := .tuple #[.agg #[.int .i64 0, .int .i64 0, .slice none 0 0], .bool false]

end Go.Proofs.Ytcnjpejlobompab
