/- The law of OpeningsOf, walked: at all arguments the program answers as the model, and what it hands back is its own. -/
import Derived.Test.YtndmkbkmfonefabDoorYM
namespace Go.Proofs.YtndmkbkmfonefabDoor
open Go.RowKit

theorem Fam.keep {w w' : World} {B C : Nat} {F : List Rw} (h : Fam w B F) (hC : ∀ x ∈ F, ∀ k, x.1.ownBlock = some k → k < C) (hb : Below C w w') : Fam w' B F :=
  ⟨fun x hx => (h.own x hx).below (hC x hx) hb, h.apart⟩

set_option maxRecDepth 100000 in
set_option maxHeartbeats 1600000 in
theorem law_OpeningsOf (l : List UInt8) (w : World) (hM : HasMax w) (hs : l.length ≤ 9223372036854775807) :
    Calls Tryd.prog 12 #[.string ⟨l.toArray⟩] w fun e w' => e = .returned (.bool true) ∧ Below w.heap.size w w' := by
  by_cases hl : l.length ≤ 1048576
  · have d0 : (boGoodM l != boGoodM l) = false := by simp
    have hrl : (opsOf l).length ≤ 1048576 := by rw [opsOf_length]; exact Nat.le_trans (fstOf_le l) (by decide)
    have HR : Hid (∀ r ∈ opsOf l, r.length ≤ 1048576) := fun r hr => Nat.le_trans (opsOf_row l r hr) (by decide)
    have hS := fun w => sOpeningsOf_any l w hl
    have hI := fun w h => iOpeningsOf_any l w h hl
    have HSS := Lib.hid hS
    have HII := Lib.hid hI
    have htot : totR (opsOf l) ≤ 1048576 * 1048576 := Nat.le_trans (totR_le (m := 1048576) _ HR.out) (Nat.mul_le_mul_left _ hrl)
    clear hS hI
    generalize opsOf l = rss at *
    have d1 : ((1 : Int) + (totR rss : Int) != 1 + (totR rss : Int)) = false := by simp
    go_enter Tryd.func12, Tryd.ntmps12
    go_wp2_with fail
    refine (HSS.out _).mono ?_
    rintro e w1 ⟨a1, c1, us1, rfl, hu1, hF1, hb1⟩
    go_wp2_with fail
    refine (HII.out _ (hM.later hb1)).mono ?_
    rintro e w2 ⟨a2, c2, us2, rfl, hu2, hF2, hb2⟩
    have HU1 := Lib.hid hu1
    have HU2 := Lib.hid hu2
    have s1 := hb1.size
    have s2 := hb2.size
    have hC1 : ∀ x ∈ ((.slice a1 rss.length c1, 29, us1) :: rowsF us1 rss : List Rw), ∀ k, x.1.ownBlock = some k → k < w1.heap.size := fun x hx k hk => ((hF1.own x hx).lt k hk).2
    have HC1 := Lib.hid hC1
    have hG1 : ∀ w', Below w1.heap.size w1 w' → Fam w' w.heap.size ((.slice a1 rss.length c1, 29, us1) :: (rowsF us1 rss ++ [])) := fun w' h => by rw [List.append_nil]; exact hF1.keep hC1 h
    have HG1 := Lib.hid hG1
    have hG2 : Fam w2 w1.heap.size ((.slice a2 rss.length c2, 29, us2) :: (rowsF us2 rss ++ [])) := by rw [List.append_nil]; exact hF2
    clear hu1 hu2 hF1 hF2 hC1 hG1
    go_wp2_with fail
    refine (eqIntSS_same rss a2 a1 c2 c1 us2 us1 [] [] _ _ _ HU2.out HU1.out hG2 (HG1.out w2 hb2) hrl HR.out).mono ?_
    rintro e w3 ⟨rfl, hb3⟩
    have s3 := hb3.size
    have hb13 := hb2.trans (hb3.mono s2)
    go_wp2_with fail
    refine (markIntSS_own rss a2 c2 us2 [] w1.heap.size _ HU2.out (hG2.later hb3) hrl HR.out).mono ?_
    rintro e w4 ⟨rfl, hG4, hb4⟩
    have s4 := hb4.size
    have hb14 := hb13.trans hb4
    have hM4 : HasMax w4 := hM.later (hb1.trans (hb14.mono s1))
    clear hG2
    go_wp2_with fail
    refine (heldIntSS_seq rss a2 c2 us2 [] w1.heap.size _ HU2.out hG4 hrl HR.out).mono ?_
    rintro e w4' ⟨rfl, rfl⟩
    go_wp2_with fail
    refine (HII.out _ hM4).mono ?_
    rintro e w5 ⟨a5, c5, us5, rfl, hu5, hF5, hb5⟩
    have HU5 := Lib.hid hu5
    have hG5 : Fam w5 w4.heap.size ((.slice a5 rss.length c5, 29, us5) :: (rowsF us5 rss ++ [])) := by rw [List.append_nil]; exact hF5
    have s5 := hb5.size
    have hb15 := hb14.trans (hb5.mono (by omega))
    clear hu5 hF5
    go_wp2_with fail
    refine (eqIntSS_same rss a5 a1 c5 c1 us5 us1 [] [] _ _ _ HU5.out HU1.out hG5 (HG1.out w5 hb15) hrl HR.out).mono ?_
    rintro e w6 ⟨rfl, hb6⟩
    have hb16 := hb15.trans (hb6.mono (by omega))
    go_wp2_with fail
    refine (heldIntSS_seq rss a2 c2 us2 [] w1.heap.size _ HU2.out ((hG4.later hb5).later hb6) hrl HR.out).mono ?_
    rintro e w6' ⟨rfl, rfl⟩
    go_wp2_with fail
    go_ret
    exact ⟨rfl, hb1.trans (hb16.mono s1)⟩
  · have hl' : 1048576 < l.length := by omega
    clear hl
    go_enter Tryd.func12, Tryd.ntmps12
    go_wp2_with fail
    go_ret
    exact ⟨rfl, Below.refl _ _⟩
end Go.Proofs.YtndmkbkmfonefabDoor
