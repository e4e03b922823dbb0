/- The law of CountBoards, walked: at all arguments the program answers as the model. -/
import Derived.Test.YthlbplmghjaeoacGJ2
import Derived.Test.YthlbplmghjaeoacGR
namespace Go.Proofs.Ythlbplmghjaeoac
open Go.RowKit

set_option maxRecDepth 100000 in
set_option maxHeartbeats 1600000 in
theorem law_CountBoards (w h m : Int) (ws : World) :
    Calls Try.prog 4 #[.int .i64 w, .int .i64 h, .int .i64 m] ws fun e w' => e = .returned (.bool true) ∧ Below ws.heap.size ws w' := by
  have d0 : (cbM w h m != cbM w h m) = false := by simp
  have d1 : (cbB w h m != cbB w h m) = false := by simp
  go_enter Try.func4, Try.ntmps4
  go_wp2_with fail
  refine (sCountBoards_any w h m _).mono ?_
  rintro e w1 ⟨rfl, hb⟩
  go_wp2_with fail
  refine (iCountBoards_any w h m _).mono ?_
  rintro e w2 ⟨rfl, hb2⟩
  go_wp2_with fail
  go_ret
  exact ⟨rfl, hb.trans (hb2.mono hb.size)⟩
end Go.Proofs.Ythlbplmghjaeoac
