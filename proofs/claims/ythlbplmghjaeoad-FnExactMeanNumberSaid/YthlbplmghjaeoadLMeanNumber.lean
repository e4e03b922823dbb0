/- The law of MeanNumber, walked: at all arguments the program answers as the model. -/
import Derived.Test.YthlbplmghjaeoadJE
import Derived.Test.YthlbplmghjaeoadK3
namespace Go.Proofs.Ythlbplmghjaeoad
open Go.RowKit

set_option maxRecDepth 100000 in
set_option maxHeartbeats 1600000 in
theorem law_MeanNumber (w h m c : Int) (ws : World) :
    Calls Try.prog 6 #[.int .i64 w, .int .i64 h, .int .i64 m, .int .i64 c] ws fun e w' => e = .returned (.bool true) ∧ Below ws.heap.size ws w' := by
  have d0 : (((mqP w h m c).1 : Int) != ((mqP w h m c).1 : Int)) = false := by simp
  have d1 : (((mqP w h m c).2 : Int) != ((mqP w h m c).2 : Int)) = false := by simp
  have d2 : (mqOK w h m c != mqOK w h m c) = false := by simp
  go_enter Try.func6, Try.ntmps6
  go_wp2_with fail
  refine (sMeanNumber_any w h m c _).mono ?_
  rintro e w1 ⟨rfl, hb⟩
  go_wp2_with fail
  refine (iMeanNumber_any w h m c _).mono ?_
  rintro e w2 ⟨rfl, hb2⟩
  go_wp2_with fail
  go_ret
  exact ⟨rfl, hb.trans (hb2.mono hb.size)⟩
end Go.Proofs.Ythlbplmghjaeoad
