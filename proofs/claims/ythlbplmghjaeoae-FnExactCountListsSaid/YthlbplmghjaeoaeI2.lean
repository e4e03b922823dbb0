/- Walks: the program reads a grid: rows of one width whose signs hold. -/
import Derived.Test.YthlbplmghjaeoaeI1
import Derived.Test.YthlbplmghjaeoaeSp
import Derived.Outline
namespace Go.Proofs.Ythlbplmghjaeoae
open Go.RowKit

/-- What a reader hands back of a text that is none. -/
def NoGrid : Value := .tuple #[.agg #[.int .i64 0, .int .i64 0, .slice none 0 0, .bool false], .bool false]

end Go.Proofs.Ythlbplmghjaeoae
