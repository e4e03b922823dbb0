/- Opening: the neighbours that were not open, by the program. -/
import Derived.Test.YthlbplmghjaeoabDoorY2
import Derived.Outline
namespace Go.Proofs.YthlbplmghjaeoabDoor
open Go.RowKit

end Go.Proofs.YthlbplmghjaeoabDoor
