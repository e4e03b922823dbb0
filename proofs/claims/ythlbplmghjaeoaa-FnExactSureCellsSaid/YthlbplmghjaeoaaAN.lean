/- How many solutions, and whether there is just one: by the model and by the program. -/
import Derived.Test.YthlbplmghjaeoaaAL
import Derived.Test.YthlbplmghjaeoaaAM
import Derived.Test.YthlbplmghjaeoaaA7
import Derived.Test.YthlbplmghjaeoaaA8
import Derived.Test.YthlbplmghjaeoaaAC
namespace Go.Proofs.Ythlbplmghjaeoaa
open Go.RowKit

/-- How many solutions a puzzle has; 0 where there is none. -/
def csN (x y : Int) (cs : List Clu) : Nat := if pzB x y cs = true then (solC x.toNat (x.toNat * y.toNat) cs).length else 0
theorem csN_no {x y : Int} {cs : List Clu} (h : pzB x y cs = false) : csN x y cs = 0 := by simp [csN, h]
theorem csN_yes {W H : Nat} {cs : List Clu} (h : pzB W H cs = true) : csN W H cs = (solC W (W * H) cs).length := by simp [csN, h]
end Go.Proofs.Ythlbplmghjaeoaa
