/- The law of CountWithNumber, walked: at all arguments the program answers as the model. -/
import Derived.Test.YthlbplmghjaeoaeGJC
import Derived.Test.YthlbplmghjaeoaeGU
namespace Go.Proofs.Ythlbplmghjaeoae
open Go.RowKit

set_option maxRecDepth 100000 in
set_option maxHeartbeats 1600000 in
theorem law_CountWithNumber (w h m c d : Int) (ws : World) :
    Calls Try.prog 5 #[.int .i64 w, .int .i64 h, .int .i64 m, .int .i64 c, .int .i64 d] ws fun e w' => e = .returned (.bool true) ∧ Below ws.heap.size ws w' := by
  have d0 : (cnM w h m c d != cnM w h m c d) = false := by simp
  have d1 : (cnB w h m c d != cnB w h m c d) = false := by simp
  go_enter Try.func5, Try.ntmps5
  go_wp2_with fail
  refine (sCountWithNumber_any w h m c d _).mono ?_
  rintro e w1 ⟨rfl, hb⟩
  go_wp2_with fail
  refine (iCountWithNumber_any w h m c d _).mono ?_
  rintro e w2 ⟨rfl, hb2⟩
  go_wp2_with fail
  go_ret
  exact ⟨rfl, hb.trans (hb2.mono hb.size)⟩
end Go.Proofs.Ythlbplmghjaeoae
