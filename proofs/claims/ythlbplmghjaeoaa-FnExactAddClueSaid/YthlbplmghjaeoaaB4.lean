/- A region that is cut: what holds behind it is said once. -/
import Derived.Test.YthlbplmghjaeoaaB3
import Derived.Test.YthlbplmghjaeoaaA9
import Derived.Test.YthlbplmghjaeoaaAD
namespace Go.Proofs.Ythlbplmghjaeoaa
open Go.RowKit

theorem region_cut {P : Program} {c : Code} {K : Act → World → Prop} {Q : Exit → Act → World → Prop} {a : Act} {w : World} (M : Act → Act → World → Prop)
    (h1 : c.wp P (Exit.then (M a) (fun _ _ _ => False)) a w) (h2 : ∀ a' w', M a a' w' → K a' w') : c.wp P (Exit.then K Q) a w :=
  wp_mono h1 fun e a' w' h => by
    cases e <;> first | exact h2 _ _ h | exact h.elim
theorem RowC.later2 {w w' : World} {B : Nat} {v : Value} {cs : List Clu} (h : RowC w B v cs) (hb : Below w.heap.size w w') : RowC w' B v cs := h.below hb
theorem infPL : (Try.prog.info? 24).map (·.size) = some 3 := by kernel_rfl
theorem infPI : (Try.prog.info? 30).map (·.size) = some 3 := by kernel_rfl
theorem infCL : (Try.prog.info? 26).map (·.size) = some 3 := by kernel_rfl
end Go.Proofs.Ythlbplmghjaeoaa
