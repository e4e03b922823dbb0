/- The law of CountMostApart, walked: at all arguments the program answers as the model. -/
import Derived.Test.YthlbplmghjaeoadGJ5
import Derived.Test.YthlbplmghjaeoadGQ
namespace Go.Proofs.Ythlbplmghjaeoad
open Go.RowKit

set_option maxRecDepth 100000 in
set_option maxHeartbeats 1600000 in
theorem law_CountMostApart (w h : Int) (ws : World) :
    Calls Try.prog 10 #[.int .i64 w, .int .i64 h] ws fun e w' => e = .returned (.bool true) ∧ Below ws.heap.size ws w' := by
  have d0 : (((cmM w h : Nat) : Int) != ((cmM w h : Nat) : Int)) = false := by simp
  have d1 : (szB w h 12 != szB w h 12) = false := by simp
  go_enter Try.func10, Try.ntmps10
  go_wp2_with fail
  refine (sCountMostApart_any w h _).mono ?_
  rintro e w1 ⟨rfl, hb⟩
  go_wp2_with fail
  refine (iCountMostApart_any w h _).mono ?_
  rintro e w2 ⟨rfl, hb2⟩
  go_wp2_with fail
  go_ret
  exact ⟨rfl, hb.trans (hb2.mono hb.size)⟩
end Go.Proofs.Ythlbplmghjaeoad
