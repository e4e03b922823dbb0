/- Counts by the program: pairs of cells, most mines apart, means, greatest sums. -/
import Derived.Test.YthlbplmghjaeoaeK1
import Derived.Test.YthlbplmghjaeoaeP1
import Derived.Outline
namespace Go.Proofs.Ythlbplmghjaeoae
open Go.RowKit




set_option maxRecDepth 100000 in
theorem greatest_all : ∀ W : Nat, W < 9 → 1 ≤ W → ∀ H : Nat, H < 9 → 1 ≤ H → gsM (W : Nat) (H : Nat) = prsM W H - min (((W - 1) * H : Nat) : Int) ((W * (H - 1) : Nat) : Int) := by decide +kernel


end Go.Proofs.Ythlbplmghjaeoae
