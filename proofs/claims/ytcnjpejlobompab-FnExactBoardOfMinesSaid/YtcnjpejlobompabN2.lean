/- Walks: the program's neighbours of a cell. -/
import Derived.Test.YtcnjpejlobompabI5
import Derived.Test.YtcnjpejlobompabN1
import Derived.RegionTactic
import Derived.ChangeAlike
import Derived.Deep.RegionHeld3
import Derived.Outline
namespace Go.Proofs.Ytcnjpejlobompab
open Go.RowKit

def dist (a b : Nat) : Nat := max (a - b) (b - a)

/-- Whether two places are different and touch. -/
def areNb (r1 c1 r2 c2 : Nat) : Bool := !(r1 == r2 && c1 == c2) && decide (dist r1 r2 ≤ 1) && decide (dist c1 c2 ≤ 1)

end Go.Proofs.Ytcnjpejlobompab
