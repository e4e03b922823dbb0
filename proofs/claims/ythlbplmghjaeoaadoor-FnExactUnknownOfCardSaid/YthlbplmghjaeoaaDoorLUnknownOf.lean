/- The law of UnknownOf, walked: at all arguments the program answers as the model, and what it hands back is its own. -/
import Derived.Test.YthlbplmghjaeoaaDoorC7
import Derived.Test.YthlbplmghjaeoaaDoorE
namespace Go.Proofs.YthlbplmghjaeoaaDoor
open Go.RowKit

set_option maxRecDepth 100000 in
set_option maxHeartbeats 1600000 in
theorem law_UnknownOf (l : List UInt8) (w : World) (hM : HasLib w) (hs : l.length ≤ 9223372036854775807) :
    Calls Tryd.prog 8 #[.string ⟨l.toArray⟩] w fun e w' => e = .returned (.bool true) ∧ Below w.heap.size w w' := by
  by_cases hl : l.length ≤ 1048576
  · have d0 : (gridM noteSign l != gridM noteSign l) = false := by simp
    have d1 : ((1 : Int) + ((unkOf l).length : Int) != 1 + ((unkOf l).length : Int)) = false := by simp
    have hlen : (unkOf l).length ≤ 1048576 := unkOf_len l
    go_enter Tryd.func8, Tryd.ntmps8
    go_wp2_with fail
    refine (sUnknownOf_any l _ hl).mono ?_
    rintro e w1 ⟨a1, c1, rfl, hown1, hb1⟩
    go_wp2_with fail
    refine (iUnknownOf_any l _ (hM.later hb1) hl).mono ?_
    rintro e w2 ⟨a2, c2, rfl, hown2, hb2⟩
    have s1 := hb1.size
    have s2 := hb2.size
    have at1 := hown1.at
    have at1' := at1.later rfl hb2
    go_wp2_with fail
    refine (eqIntS_same _ _ ((unkOf l).map Int.ofNat) _ _ _ _ (by simp) hown2.at at1' (by simp; omega)).mono ?_
    rintro e w3 ⟨rfl, hb3⟩
    have s3 := hb3.size
    have at3 := at1'.later rfl hb3
    have own3 := hown2.later hb3
    go_wp2_with fail
    refine (markIntS_own w1.heap.size _ ((unkOf l).map Int.ofNat) _ _ _ _ rfl (by simp) own3 (by simp; omega)).mono ?_
    rintro e w4 ⟨rfl, own4, hb4⟩
    have s4 := hb4.size
    have at4 := at3.below at1 (Nat.le_refl _) hb4
    have hM4 : HasLib w4 := hM.later (((hb1.trans (hb2.mono s1)).trans (hb3.mono (by omega))).trans (hb4.mono s1))
    go_wp2_with fail
    refine (heldIntS_seq _ _ _ _ _ rfl own4.at (by omega)).mono ?_
    rintro e w4' ⟨rfl, rfl⟩
    go_wp2_with fail
    refine (iUnknownOf_any l _ hM4 hl).mono ?_
    rintro e w5 ⟨a5, c5, rfl, hown5, hb5⟩
    have s5 := hb5.size
    have at5 := at4.later rfl hb5
    have own5 := own4.later hb5
    go_wp2_with fail
    refine (eqIntS_same _ _ ((unkOf l).map Int.ofNat) _ _ _ _ (by simp) hown5.at at5 (by simp; omega)).mono ?_
    rintro e w6 ⟨rfl, hb6⟩
    have own6 := own5.later hb6
    go_wp2_with fail
    refine (heldIntS_seq _ _ _ _ _ rfl own6.at (by omega)).mono ?_
    rintro e w6' ⟨rfl, rfl⟩
    go_wp2_with fail
    go_ret
    exact ⟨rfl, ((((hb1.trans (hb2.mono s1)).trans (hb3.mono (by omega))).trans (hb4.mono s1)).trans (hb5.mono (by omega))).trans (hb6.mono (by omega))⟩
  · have hl' : 1048576 < l.length := by omega
    clear hl
    go_enter Tryd.func8, Tryd.ntmps8
    go_wp2_with fail
    go_ret
    exact ⟨rfl, Below.refl _ _⟩
end Go.Proofs.YthlbplmghjaeoaaDoor
