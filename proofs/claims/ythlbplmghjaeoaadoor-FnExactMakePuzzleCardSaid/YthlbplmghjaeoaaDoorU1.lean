/- Walks: a grid without mines; the cell at a spot. -/
import Derived.Test.YthlbplmghjaeoaaDoorGT1
import Derived.Test.YthlbplmghjaeoaaDoorGN1
import Derived.Outline
namespace Go.Proofs.YthlbplmghjaeoaaDoor
open Go.RowKit


end Go.Proofs.YthlbplmghjaeoaaDoor
