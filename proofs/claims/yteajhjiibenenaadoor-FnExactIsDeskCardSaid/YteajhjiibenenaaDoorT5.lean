/- Walks: another sign in a cell, by the model. -/
import Derived.Test.YteajhjiibenenaaDoorT4
import Derived.Outline
namespace Go.Proofs.YteajhjiibenenaaDoor
open Go.RowKit


end Go.Proofs.YteajhjiibenenaaDoor
