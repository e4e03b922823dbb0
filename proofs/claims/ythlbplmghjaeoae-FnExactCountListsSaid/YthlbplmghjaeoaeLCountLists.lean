/- The law of CountLists, walked: at all arguments the program answers as the model. -/
import Derived.Test.YthlbplmghjaeoaeMI
import Derived.Test.YthlbplmghjaeoaeMH
namespace Go.Proofs.Ythlbplmghjaeoae
open Go.RowKit

set_option maxRecDepth 100000 in
set_option maxHeartbeats 1600000 in
theorem law_CountLists (c : Int) (ws : World) :
    Calls Try.prog 7 #[.int .i64 c] ws fun e w' => e = .returned (.bool true) ∧ Below ws.heap.size ws w' := by
  have d0 : (((clV c : Nat) : Int) != ((clV c : Nat) : Int)) = false := by simp
  have d1 : (inB c 1 12 != inB c 1 12) = false := by simp
  go_enter Try.func7, Try.ntmps7
  go_wp2_with fail
  refine (sCountLists_any c _).mono ?_
  rintro e w1 ⟨rfl, hb⟩
  go_wp2_with fail
  refine (iCountLists_any c _).mono ?_
  rintro e w2 ⟨rfl, hb2⟩
  go_wp2_with fail
  go_ret
  exact ⟨rfl, hb.trans (hb2.mono hb.size)⟩
end Go.Proofs.Ythlbplmghjaeoae
