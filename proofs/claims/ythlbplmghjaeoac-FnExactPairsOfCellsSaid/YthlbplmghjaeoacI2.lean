/- Walks: the program reads a grid: rows of one width whose signs hold. -/
import Derived.Test.YthlbplmghjaeoacI1
import Derived.Test.YthlbplmghjaeoacSp
import Derived.Outline
namespace Go.Proofs.Ythlbplmghjaeoac
open Go.RowKit

/-- What a reader hands back of a text that is none. -/
def NoGrid : Value := .tuple #[.agg #[.int .i64 0, .int .i64 0, .slice none 0 0, .bool false], .bool false]

end Go.Proofs.Ythlbplmghjaeoac
