/- The law of FindByRules, walked: at all arguments the program answers as the model. -/
import Derived.Test.YthlbplmghjaeoacDoorD2
namespace Go.Proofs.YthlbplmghjaeoacDoor
open Go.RowKit

set_option maxRecDepth 100000 in
set_option maxHeartbeats 1600000 in
theorem law_FindByRules (l : List UInt8) (p : Bool) (w : World) (hM : HasLib w) (hs : l.length ≤ 9223372036854775807) :
    Calls Tryd.prog 7 #[.string ⟨l.toArray⟩, .bool p] w fun e w' => e = .returned (.bool true) ∧ Below w.heap.size w w' := by
  by_cases hl : l.length ≤ 1048576
  · have d0 : (!((faM l p) == (faM l p))) = false := by simp
    have d1 : (faB l p != faB l p) = false := by simp
    go_enter Tryd.func7, Tryd.ntmps7
    go_wp2_with fail
    refine (sFindByRules_any l p _ hl).mono ?_
    rintro e w1 ⟨rfl, hb⟩
    go_wp2_with fail
    refine (iFindByRules_any l p _ (hM.later hb) hl).mono ?_
    rintro e w2 ⟨rfl, hb2⟩
    go_wp2_with fail
    go_ret
    exact ⟨rfl, hb.trans (hb2.mono hb.size)⟩
  · have hl' : 1048576 < l.length := by omega
    clear hl
    go_enter Tryd.func7, Tryd.ntmps7
    go_wp2_with fail
    go_ret
    exact ⟨rfl, Below.refl _ _⟩
end Go.Proofs.YthlbplmghjaeoacDoor
