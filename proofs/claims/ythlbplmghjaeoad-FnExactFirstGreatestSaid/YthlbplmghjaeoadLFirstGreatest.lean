/- The law of FirstGreatest, walked: at all arguments the program answers as the model. -/
import Derived.Test.YthlbplmghjaeoadJ8
import Derived.Test.YthlbplmghjaeoadKL
namespace Go.Proofs.Ythlbplmghjaeoad
open Go.RowKit

set_option maxRecDepth 100000 in
set_option maxHeartbeats 1600000 in
theorem law_FirstGreatest (w h : Int) (ws : World) :
    Calls Try.prog 8 #[.int .i64 w, .int .i64 h] ws fun e w' => e = .returned (.bool true) ∧ Below ws.heap.size ws w' := by
  have d0 : (!((fgM w h) == (fgM w h))) = false := by simp
  have d1 : (szB w h 12 != szB w h 12) = false := by simp
  go_enter Try.func8, Try.ntmps8
  go_wp2_with fail
  refine (sFirstGreatest_any w h _).mono ?_
  rintro e w1 ⟨rfl, hb⟩
  go_wp2_with fail
  refine (iFirstGreatest_any w h _).mono ?_
  rintro e w2 ⟨rfl, hb2⟩
  go_wp2_with fail
  go_ret
  exact ⟨rfl, hb.trans (hb2.mono hb.size)⟩
end Go.Proofs.Ythlbplmghjaeoad
