/- The law of CountWithSum, walked: at all arguments the program answers as the model. -/
import Derived.Test.YthlbplmghjaeoadGJH
import Derived.Test.YthlbplmghjaeoadGN
namespace Go.Proofs.Ythlbplmghjaeoad
open Go.RowKit

set_option maxRecDepth 100000 in
set_option maxHeartbeats 1600000 in
theorem law_CountWithSum (w h s : Int) (ws : World) :
    Calls Try.prog 3 #[.int .i64 w, .int .i64 h, .int .i64 s] ws fun e w' => e = .returned (.bool true) ∧ Below ws.heap.size ws w' := by
  have d0 : (((cwM w h s : Nat) : Int) != ((cwM w h s : Nat) : Int)) = false := by simp
  have d1 : (cwB w h s != cwB w h s) = false := by simp
  go_enter Try.func3, Try.ntmps3
  go_wp2_with fail
  refine (sCountWithSum_any w h s _).mono ?_
  rintro e w1 ⟨rfl, hb⟩
  go_wp2_with fail
  refine (iCountWithSum_any w h s _).mono ?_
  rintro e w2 ⟨rfl, hb2⟩
  go_wp2_with fail
  go_ret
  exact ⟨rfl, hb.trans (hb2.mono hb.size)⟩
end Go.Proofs.Ythlbplmghjaeoad
