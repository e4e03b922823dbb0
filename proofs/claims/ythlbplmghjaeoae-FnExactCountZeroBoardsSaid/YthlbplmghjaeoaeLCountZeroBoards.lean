/- The law of CountZeroBoards, walked: at all arguments the program answers as the model. -/
import Derived.Test.YthlbplmghjaeoaeGJ9
import Derived.Test.YthlbplmghjaeoaeGGO
namespace Go.Proofs.Ythlbplmghjaeoae
open Go.RowKit

set_option maxRecDepth 100000 in
set_option maxHeartbeats 1600000 in
theorem law_CountZeroBoards (w h m : Int) (ws : World) :
    Calls Try.prog 6 #[.int .i64 w, .int .i64 h, .int .i64 m] ws fun e w' => e = .returned (.bool true) ∧ Below ws.heap.size ws w' := by
  have d0 : (((czM w h m : Nat) : Int) != ((czM w h m : Nat) : Int)) = false := by simp
  have d1 : (cbB w h m != cbB w h m) = false := by simp
  go_enter Try.func6, Try.ntmps6
  go_wp2_with fail
  refine (sCountZeroBoards_any w h m _).mono ?_
  rintro e w1 ⟨rfl, hb⟩
  go_wp2_with fail
  refine (iCountZeroBoards_any w h m _).mono ?_
  rintro e w2 ⟨rfl, hb2⟩
  go_wp2_with fail
  go_ret
  exact ⟨rfl, hb.trans (hb2.mono hb.size)⟩
end Go.Proofs.Ythlbplmghjaeoae
