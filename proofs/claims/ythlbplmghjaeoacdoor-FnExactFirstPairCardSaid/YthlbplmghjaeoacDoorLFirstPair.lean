/- The law of FirstPair, walked: at all arguments the program answers as the model. -/
import Derived.Test.YthlbplmghjaeoacDoorCS
namespace Go.Proofs.YthlbplmghjaeoacDoor
open Go.RowKit

set_option maxRecDepth 100000 in
set_option maxHeartbeats 1600000 in
theorem law_FirstPair (l : List UInt8) (w : World) (hM : HasMax w) (hs : l.length ≤ 9223372036854775807) :
    Calls Tryd.prog 5 #[.string ⟨l.toArray⟩] w fun e w' => e = .returned (.bool true) ∧ Below w.heap.size w w' := by
  by_cases hl : l.length ≤ 1048576
  · have d0 : (((fpM l).1 : Int) != ((fpM l).1 : Int)) = false := by simp
    have d1 : (((fpM l).2.1 : Int) != ((fpM l).2.1 : Int)) = false := by simp
    have d2 : (fnd (fpM l).2.2 != fnd (fpM l).2.2) = false := by simp
    go_enter Tryd.func5, Tryd.ntmps5
    go_wp2_with fail
    refine (sFirstPair_any l _ hl).mono ?_
    rintro e w1 ⟨rfl, hb⟩
    go_wp2_with fail
    refine (iFirstPair_any l _ (hM.later hb) hl).mono ?_
    rintro e w2 ⟨rfl, hb2⟩
    go_wp2_with fail
    go_ret
    exact ⟨rfl, hb.trans (hb2.mono hb.size)⟩
  · have hl' : 1048576 < l.length := by omega
    clear hl
    go_enter Tryd.func5, Tryd.ntmps5
    go_wp2_with fail
    go_ret
    exact ⟨rfl, Below.refl _ _⟩
end Go.Proofs.YthlbplmghjaeoacDoor
