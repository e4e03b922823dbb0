/- The law of SameNumbers, walked: at all arguments the program answers as the model, and what it hands back is its own. -/
import Derived.Test.YthlbplmghjaeoaeDoorJ7
import Derived.Test.YthlbplmghjaeoaeDoorKP
import Derived.Test.YthlbplmghjaeoaeDoorE4
namespace Go.Proofs.YthlbplmghjaeoaeDoor
open Go.RowKit

set_option maxRecDepth 100000 in
set_option maxHeartbeats 1600000 in
theorem law_SameNumbers (l : List UInt8) (w : World) (hM : HasMax w) (hsl : l.length ≤ 9223372036854775807) :
    Calls Tryd.prog 3 #[.string ⟨l.toArray⟩] w fun e w' => e = .returned (.bool true) ∧ Below w.heap.size w w' := by
  by_cases hll : l.length ≤ 1048576
  · skip
    have d0 : (fwB l != fwB l) = false := by simp
    have d1 : ((1 : Int) + ((snM l).length : Int) != 1 + ((snM l).length : Int)) = false := by simp
    have hlen : (snM l).length ≤ 1048576 := snM_len l
    go_enter Tryd.func3, Tryd.ntmps3
    go_wp2_with fail
    refine (sSameNumbers_any l _ hll).mono ?_
    rintro e w1 ⟨a1, c1, rfl, hown1, hb1⟩
    go_wp2_with fail
    refine (iSameNumbers_any l _ (hM.later hb1) hll).mono ?_
    rintro e w2 ⟨a2, c2, rfl, hown2, hb2⟩
    have s1 := hb1.size
    have s2 := hb2.size
    have at1 := hown1.at
    have at1' := at1.later rfl hb2
    go_wp2_with fail
    refine (eqStringS_same _ _ (snM l) _ _ _ _ rfl hown2.at at1' (by omega)).mono ?_
    rintro e w3 ⟨rfl, hb3⟩
    have s3 := hb3.size
    have at3 := at1'.later rfl hb3
    have own3 := hown2.later hb3
    go_wp2_with fail
    refine (markStringS_own w1.heap.size _ (snM l) _ _ _ _ rfl rfl own3 (by omega)).mono ?_
    rintro e w4 ⟨rfl, own4, hb4⟩
    have s4 := hb4.size
    have at4 := at3.below at1 (Nat.le_refl _) hb4
    go_wp2_with fail
    refine (heldStringS_seq _ _ _ _ _ rfl own4.at (by omega)).mono ?_
    rintro e w5 ⟨rfl, hb5⟩
    have s5 := hb5.size
    have own5 := own4.later hb5
    have at5 := at4.later rfl hb5
    have hb05 := (((hb1.trans (hb2.mono s1)).trans (hb3.mono (by omega))).trans (hb4.mono s1)).trans (hb5.mono (by omega))
    have hM5 : HasMax w5 := hM.later hb05
    go_wp2_with fail
    refine (iSameNumbers_any l _ hM5 hll).mono ?_
    rintro e w6 ⟨a6, c6, rfl, hown6, hb6⟩
    have s6 := hb6.size
    have at6 := at5.later rfl hb6
    have own6 := own5.later hb6
    go_wp2_with fail
    refine (eqStringS_same _ _ (snM l) _ _ _ _ rfl hown6.at at6 (by omega)).mono ?_
    rintro e w7 ⟨rfl, hb7⟩
    have s7 := hb7.size
    have own7 := own6.later hb7
    go_wp2_with fail
    refine (heldStringS_seq _ _ _ _ _ rfl own7.at (by omega)).mono ?_
    rintro e w8 ⟨rfl, hb8⟩
    go_wp2_with fail
    go_ret
    exact ⟨rfl, ((hb05.trans (hb6.mono (by omega))).trans (hb7.mono (by omega))).trans (hb8.mono (by omega))⟩
  · have hl' : 1048576 < l.length := by omega
    clear hll
    go_enter Tryd.func3, Tryd.ntmps3
    go_wp2_with fail
    go_ret
    exact ⟨rfl, Below.refl _ _⟩
end Go.Proofs.YthlbplmghjaeoaeDoor
