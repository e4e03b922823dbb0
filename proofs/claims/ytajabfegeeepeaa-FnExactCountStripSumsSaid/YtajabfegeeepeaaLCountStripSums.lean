/- The law of CountStripSums, walked: at all arguments the program answers as the model. -/
import Derived.Test.YtajabfegeeepeaaMB
namespace Go.Proofs.Ytajabfegeeepeaa
open Go.RowKit

set_option maxRecDepth 100000 in
set_option maxHeartbeats 1600000 in
theorem law_CountStripSums (c d : Int) (ws : World) :
    Calls Try.prog 9 #[.int .i64 c, .int .i64 d] ws fun e w' => e = .returned (.bool true) ∧ Below ws.heap.size ws w' := by
  have d0 : (((cssV c d : Nat) : Int) != ((cssV c d : Nat) : Int)) = false := by simp
  have d1 : (cssB c d != cssB c d) = false := by simp
  go_enter Try.func9, Try.ntmps9
  go_wp2_with fail
  refine (sCountStripSums_any c d _).mono ?_
  rintro e w1 ⟨rfl, hb⟩
  go_wp2_with fail
  refine (iCountStripSums_any c d _).mono ?_
  rintro e w2 ⟨rfl, hb2⟩
  go_wp2_with fail
  go_ret
  exact ⟨rfl, hb.trans (hb2.mono hb.size)⟩
end Go.Proofs.Ytajabfegeeepeaa
