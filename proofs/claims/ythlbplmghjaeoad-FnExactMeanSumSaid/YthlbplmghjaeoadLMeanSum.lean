/- The law of MeanSum, walked: at all arguments the program answers as the model. -/
import Derived.Test.YthlbplmghjaeoadJD
import Derived.Test.YthlbplmghjaeoadK3
namespace Go.Proofs.Ythlbplmghjaeoad
open Go.RowKit

set_option maxRecDepth 100000 in
set_option maxHeartbeats 1600000 in
theorem law_MeanSum (w h m : Int) (ws : World) :
    Calls Try.prog 5 #[.int .i64 w, .int .i64 h, .int .i64 m] ws fun e w' => e = .returned (.bool true) ∧ Below ws.heap.size ws w' := by
  have d0 : (((msP w h m).1 : Int) != ((msP w h m).1 : Int)) = false := by simp
  have d1 : (((msP w h m).2 : Int) != ((msP w h m).2 : Int)) = false := by simp
  have d2 : (msB w h m != msB w h m) = false := by simp
  go_enter Try.func5, Try.ntmps5
  go_wp2_with fail
  refine (sMeanSum_any w h m _).mono ?_
  rintro e w1 ⟨rfl, hb⟩
  go_wp2_with fail
  refine (iMeanSum_any w h m _).mono ?_
  rintro e w2 ⟨rfl, hb2⟩
  go_wp2_with fail
  go_ret
  exact ⟨rfl, hb.trans (hb2.mono hb.size)⟩
end Go.Proofs.Ythlbplmghjaeoad
