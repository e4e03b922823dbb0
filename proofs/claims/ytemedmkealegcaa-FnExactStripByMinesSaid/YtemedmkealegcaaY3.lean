/- Opening: the neighbours that were not open, by the program. -/
import Derived.Test.YtemedmkealegcaaY2
import Derived.Outline
namespace Go.Proofs.Ytemedmkealegcaa
open Go.RowKit

end Go.Proofs.Ytemedmkealegcaa
