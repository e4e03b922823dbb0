/- The law of CountSteps, walked: at all arguments the program answers as the model. -/
import Derived.Test.YthlbplmghjaeoacDoorD2
namespace Go.Proofs.YthlbplmghjaeoacDoor
open Go.RowKit

set_option maxRecDepth 100000 in
set_option maxHeartbeats 1600000 in
theorem law_CountSteps (l : List UInt8) (p : Bool) (w : World) (hM : HasLib w) (hs : l.length ≤ 9223372036854775807) :
    Calls Tryd.prog 8 #[.string ⟨l.toArray⟩, .bool p] w fun e w' => e = .returned (.bool true) ∧ Below w.heap.size w w' := by
  by_cases hl : l.length ≤ 1048576
  · have d0 : (((faN l p : Nat) : Int) != ((faN l p : Nat) : Int)) = false := by simp
    have d1 : (faB l p != faB l p) = false := by simp
    go_enter Tryd.func8, Tryd.ntmps8
    go_wp2_with fail
    refine (sCountSteps_any l p _ hl).mono ?_
    rintro e w1 ⟨rfl, hb⟩
    go_wp2_with fail
    refine (iCountSteps_any l p _ (hM.later hb) hl).mono ?_
    rintro e w2 ⟨rfl, hb2⟩
    go_wp2_with fail
    go_ret
    exact ⟨rfl, hb.trans (hb2.mono hb.size)⟩
  · have hl' : 1048576 < l.length := by omega
    clear hl
    go_enter Tryd.func8, Tryd.ntmps8
    go_wp2_with fail
    go_ret
    exact ⟨rfl, Below.refl _ _⟩
end Go.Proofs.YthlbplmghjaeoacDoor
