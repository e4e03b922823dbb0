/- The law of CloseView, walked: at all arguments the program answers as the model. -/
import Derived.Test.YtndmkbkmfonefadDoorW6
namespace Go.Proofs.YtndmkbkmfonefadDoor
open Go.RowKit

set_option maxRecDepth 100000 in
set_option maxHeartbeats 1600000 in
theorem law_CloseView (l : List UInt8) (c : Int) (w : World) (hM : HasMax w) (hs : l.length ≤ 9223372036854775807) :
    Calls Tryd.prog 12 #[.string ⟨l.toArray⟩, .int .i64 c] w fun e w' => e = .returned (.bool true) ∧ Below w.heap.size w w' := by
  by_cases hl : l.length ≤ 1048576
  · have d0 : (!((clM l c) == (clM l c))) = false := by simp
    have d1 : (clOK l c != clOK l c) = false := by simp
    go_enter Tryd.func12, Tryd.ntmps12
    go_wp2_with fail
    refine (sCloseView_any l c _ hl).mono ?_
    rintro e w1 ⟨rfl, hb⟩
    go_wp2_with fail
    refine (iCloseView_any l c _ (hM.later hb) hl).mono ?_
    rintro e w2 ⟨rfl, hb2⟩
    go_wp2_with fail
    go_ret
    exact ⟨rfl, hb.trans (hb2.mono hb.size)⟩
  · have hl' : 1048576 < l.length := by omega
    clear hl
    go_enter Tryd.func12, Tryd.ntmps12
    go_wp2_with fail
    go_ret
    exact ⟨rfl, Below.refl _ _⟩
end Go.Proofs.YtndmkbkmfonefadDoor
