/- The law of PairsOfCells, walked: at all arguments the program answers as the model. -/
import Derived.Test.YthlbplmghjaeoacJ2
import Derived.Test.YthlbplmghjaeoacK2
namespace Go.Proofs.Ythlbplmghjaeoac
open Go.RowKit

set_option maxRecDepth 100000 in
set_option maxHeartbeats 1600000 in
theorem law_PairsOfCells (w h : Int) (ws : World) :
    Calls Try.prog 3 #[.int .i64 w, .int .i64 h] ws fun e w' => e = .returned (.bool true) ∧ Below ws.heap.size ws w' := by
  have d0 : (pcM w h != pcM w h) = false := by simp
  have d1 : (szB w h 64 != szB w h 64) = false := by simp
  go_enter Try.func3, Try.ntmps3
  go_wp2_with fail
  refine (sPairsOfCells_any w h _).mono ?_
  rintro e w1 ⟨rfl, hb⟩
  go_wp2_with fail
  refine (iPairsOfCells_any w h _).mono ?_
  rintro e w2 ⟨rfl, hb2⟩
  go_wp2_with fail
  go_ret
  exact ⟨rfl, hb.trans (hb2.mono hb.size)⟩
end Go.Proofs.Ythlbplmghjaeoac
