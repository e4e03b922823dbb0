/- The law of FirstNear, walked: at all arguments the program answers as the model. -/
import Derived.Test.YthlbplmghjaeoaeGJ9
import Derived.Test.YthlbplmghjaeoaeGF
namespace Go.Proofs.Ythlbplmghjaeoae
open Go.RowKit

set_option maxRecDepth 100000 in
set_option maxHeartbeats 1600000 in
theorem law_FirstNear (w h : Int) (ws : World) :
    Calls Try.prog 4 #[.int .i64 w, .int .i64 h] ws fun e w' => e = .returned (.bool true) ∧ Below ws.heap.size ws w' := by
  have d0 : (!(frM w h == frM w h)) = false := by simp
  have d1 : (szB w h 12 != szB w h 12) = false := by simp
  go_enter Try.func4, Try.ntmps4
  go_wp2_with fail
  refine (sFirstNear_any w h _).mono ?_
  rintro e w1 ⟨rfl, hb⟩
  go_wp2_with fail
  refine (iFirstNear_any w h _).mono ?_
  rintro e w2 ⟨rfl, hb2⟩
  go_wp2_with fail
  go_ret
  exact ⟨rfl, hb.trans (hb2.mono hb.size)⟩
end Go.Proofs.Ythlbplmghjaeoae
