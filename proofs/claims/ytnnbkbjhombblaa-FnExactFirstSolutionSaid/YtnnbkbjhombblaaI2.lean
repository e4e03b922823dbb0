/- Walks: the program reads a grid: rows of one width whose signs hold. -/
import Derived.Test.YtnnbkbjhombblaaI1
import Derived.Test.YtnnbkbjhombblaaSp
import Derived.Outline
namespace Go.Proofs.Ytnnbkbjhombblaa
open Go.RowKit

/-- What a reader hands back of a text that is none. -/
def NoGrid : Value := .tuple #[.agg #[.int .i64 0, .int .i64 0, .slice none 0 0, .bool false], .bool false]

end Go.Proofs.Ytnnbkbjhombblaa
