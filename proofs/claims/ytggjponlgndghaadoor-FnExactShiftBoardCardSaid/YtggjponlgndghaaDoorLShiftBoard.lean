/- The law of ShiftBoard, walked: at all arguments the program answers as the model. -/
import Derived.Test.YtggjponlgndghaaDoorOI
namespace Go.Proofs.YtggjponlgndghaaDoor
open Go.RowKit

set_option maxRecDepth 100000 in
set_option maxHeartbeats 1600000 in
theorem law_ShiftBoard (l : List UInt8) (c e : Int) (w : World) (hM : HasMax w) (hs : l.length ≤ 9223372036854775807) :
    Calls Tryd.prog 8 #[.string ⟨l.toArray⟩, .int .i64 c, .int .i64 e] w fun en w' => en = .returned (.bool true) ∧ Below w.heap.size w w' := by
  by_cases hl : l.length ≤ 1048576
  · have d0 : (!((shT l c e) == (shT l c e))) = false := by simp
    have d1 : (shOK l c e != shOK l c e) = false := by simp
    go_enter Tryd.func8, Tryd.ntmps8
    go_wp2_with fail
    refine (sShiftBoard_any l c e _ hl).mono ?_
    rintro _ w1 ⟨rfl, hb⟩
    go_wp2_with fail
    refine (iShiftBoard_any l c e _ (hM.later hb) hl).mono ?_
    rintro _ w2 ⟨rfl, hb2⟩
    go_wp2_with fail
    go_ret
    exact ⟨rfl, hb.trans (hb2.mono hb.size)⟩
  · have hl' : 1048576 < l.length := by omega
    clear hl
    go_enter Tryd.func8, Tryd.ntmps8
    go_wp2_with fail
    go_ret
    exact ⟨rfl, Below.refl _ _⟩
end Go.Proofs.YtggjponlgndghaaDoor
