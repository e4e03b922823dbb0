/- The law of LastStrip, walked: at all arguments the program answers as the model. -/
import Derived.Test.YtemedmkealegcabHL
namespace Go.Proofs.Ytemedmkealegcab
open Go.RowKit

set_option maxRecDepth 100000 in
set_option maxHeartbeats 1600000 in
theorem law_LastStrip (l : List UInt8) (w : World) (hs : l.length ≤ 9223372036854775807) :
    Calls Try.prog 4 #[.string ⟨l.toArray⟩] w fun e w' => e = .returned (.bool true) ∧ Below w.heap.size w w' := by
  by_cases hl : l.length ≤ 1048576
  · have d0 : (!((sorV l (((sumN 41 (cwT l) : Nat) : Int) - 1)) == (sorV l (((sumN 41 (cwT l) : Nat) : Int) - 1)))) = false := by simp
    have d1 : (sorB l (((sumN 41 (cwT l) : Nat) : Int) - 1) != sorB l (((sumN 41 (cwT l) : Nat) : Int) - 1)) = false := by simp
    go_enter Try.func4, Try.ntmps4
    go_wp2_with fail
    refine (sLastStrip_any l _ hl).mono ?_
    rintro e w1 ⟨rfl, hb⟩
    go_wp2_with fail
    refine (iLastStrip_any l _ hl).mono ?_
    rintro e w2 ⟨rfl, hb2⟩
    go_wp2_with fail
    go_ret
    exact ⟨rfl, hb.trans (hb2.mono hb.size)⟩
  · have hl' : 1048576 < l.length := by omega
    clear hl
    go_enter Try.func4, Try.ntmps4
    go_wp2_with fail
    go_ret
    exact ⟨rfl, Below.refl _ _⟩
end Go.Proofs.Ytemedmkealegcab
