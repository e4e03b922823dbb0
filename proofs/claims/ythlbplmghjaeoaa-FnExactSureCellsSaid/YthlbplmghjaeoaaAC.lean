/- Puzzles by the model: a clue less, DropClue. -/
import Derived.Test.YthlbplmghjaeoaaA8
import Derived.Test.YthlbplmghjaeoaaAB
import Derived.Outline
namespace Go.Proofs.Ythlbplmghjaeoaa
open Go.RowKit

set_option maxRecDepth 100000 in
set_option maxHeartbeats 800000 in
theorem pzWith_any (x y : Int) (a : Option Addr) (n cap : Nat) (b : Option Addr) (m c : Nat) (w : World) :
    Calls Try.prog 18 #[.agg #[.int .i64 x, .int .i64 y, .slice a n cap], .slice b m c] w fun e w' => e = .returned (.agg #[.int .i64 x, .int .i64 y, .slice b m c]) ∧ Below w.heap.size w w' := by
  go_enter Try.func18, Try.ntmps18
  go_wp2_with fail
  exact bodyPost_ret (results_cell_row rfl _ _ _ _ _ _ _ rfl (blk1 w (.cells #[.int .i64 x, .int .i64 y, .slice a n cap] 30) (.cells #[.int .i64 x, .int .i64 y, .slice b m c] 30)) Try.underlying30 rfl infPuz) rfl ⟨rfl, ((Below.refl _ _).alloc (Nat.le_refl _) _).alloc (by simp) _⟩
end Go.Proofs.Ythlbplmghjaeoaa
