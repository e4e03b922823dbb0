/- Walks: a grid without mines; the cell at a spot. -/
import Derived.Test.YteajhjiibenenaaDoorT3
import Derived.Test.YteajhjiibenenaaDoorGN1
import Derived.Outline
namespace Go.Proofs.YteajhjiibenenaaDoor
open Go.RowKit


end Go.Proofs.YteajhjiibenenaaDoor
