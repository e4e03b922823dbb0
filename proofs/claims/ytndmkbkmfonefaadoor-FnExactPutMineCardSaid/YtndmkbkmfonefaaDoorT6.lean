/- Walks: a mine taken away, by the model. -/
import Derived.Test.YtndmkbkmfonefaaDoorT5
namespace Go.Proofs.YtndmkbkmfonefaaDoor
open Go.RowKit

end Go.Proofs.YtndmkbkmfonefaaDoor
