/- Puzzles by the model: a clue less, DropClue. -/
import Derived.Test.YthlbplmghjaeoaaDoorA8
import Derived.Test.YthlbplmghjaeoaaDoorAB
import Derived.Outline
namespace Go.Proofs.YthlbplmghjaeoaaDoor
open Go.RowKit

end Go.Proofs.YthlbplmghjaeoaaDoor
