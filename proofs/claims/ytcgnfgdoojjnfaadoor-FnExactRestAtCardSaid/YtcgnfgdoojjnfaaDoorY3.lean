/- Opening: the neighbours that were not open, by the program. -/
import Derived.Test.YtcgnfgdoojjnfaaDoorY2
import Derived.Outline
namespace Go.Proofs.YtcgnfgdoojjnfaaDoor
open Go.RowKit

end Go.Proofs.YtcgnfgdoojjnfaaDoor
