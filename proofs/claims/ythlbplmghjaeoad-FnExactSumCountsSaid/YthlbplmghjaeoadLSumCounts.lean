/- The law of SumCounts, walked: at all arguments the program answers as the model, and what it hands back is its own. -/
import Derived.Test.YthlbplmghjaeoadGJH
import Derived.Test.YthlbplmghjaeoadGV
import Derived.Test.YthlbplmghjaeoadGYF
namespace Go.Proofs.Ythlbplmghjaeoad
open Go.RowKit

theorem Fam.keepS {w w' : World} {B C : Nat} {F : List Rw} (h : Fam w B F) (hC : ∀ x ∈ F, ∀ k, x.1.ownBlock = some k → k < C) (hb : Below C w w') : Fam w' B F :=
  ⟨fun x hx => (h.own x hx).below (hC x hx) hb, h.apart⟩


set_option maxRecDepth 100000 in
set_option maxHeartbeats 1600000 in
theorem law_SumCounts (c : Int) (d : Int) (w : World) :
    Calls Try.prog 4 #[.int .i64 c, .int .i64 d] w fun e w' => e = .returned (.bool true) ∧ Below w.heap.size w w' := by
  have d0 : (szB c d 12 != szB c d 12) = false := by simp
  have hrl : (scM c d).length ≤ 1048576 := scM_len c d
  have HR : Hid (∀ r ∈ scM c d, r.length ≤ 1048576) := scM_rows c d
  have hS := fun w => sSumCounts_any c d w
  have hI := fun w => iSumCounts_any c d w
  have HSS := Lib.hid hS
  have HII := Lib.hid hI
  have htot : totR (scM c d) ≤ 1048576 * 1048576 := Nat.le_trans (totR_le (m := 1048576) _ HR.out) (Nat.mul_le_mul_left _ hrl)
  clear hS hI
  generalize scM c d = rss at *
  have d1 : ((1 : Int) + (totR rss : Int) != 1 + (totR rss : Int)) = false := by simp
  go_enter Try.func4, Try.ntmps4
  go_wp2_with fail
  refine (HSS.out _).mono ?_
  rintro e w1 ⟨a1, c1, us1, rfl, hu1, hF1, hb1⟩
  go_wp2_with fail
  refine (HII.out _).mono ?_
  rintro e w2 ⟨a2, c2, us2, rfl, hu2, hF2, hb2⟩
  have HU1 := Lib.hid hu1
  have HU2 := Lib.hid hu2
  have s1 := hb1.size
  have s2 := hb2.size
  have hC1 : ∀ x ∈ ((.slice a1 rss.length c1, 39, us1) :: rowsF us1 rss : List Rw), ∀ k, x.1.ownBlock = some k → k < w1.heap.size := fun x hx k hk => ((hF1.own x hx).lt k hk).2
  have HC1 := Lib.hid hC1
  have hG1 : ∀ w', Below w1.heap.size w1 w' → Fam w' w.heap.size ((.slice a1 rss.length c1, 39, us1) :: (rowsF us1 rss ++ [])) := fun w' h => by rw [List.append_nil]; exact hF1.keepS hC1 h
  have HG1 := Lib.hid hG1
  have hG2 : Fam w2 w1.heap.size ((.slice a2 rss.length c2, 39, us2) :: (rowsF us2 rss ++ [])) := by rw [List.append_nil]; exact hF2
  clear hu1 hu2 hF1 hF2 hC1 hG1
  go_wp2_with fail
  refine (eqIntSS_same rss a2 a1 c2 c1 us2 us1 [] [] _ _ _ HU2.out HU1.out hG2 (HG1.out w2 hb2) hrl HR.out).mono ?_
  rintro e w3 ⟨rfl, hb3⟩
  have s3 := hb3.size
  have hb13 := hb2.trans (hb3.mono s2)
  go_wp2_with fail
  refine (markIntSS_own rss a2 c2 us2 [] w1.heap.size _ HU2.out (hG2.later hb3) hrl HR.out).mono ?_
  rintro e w4 ⟨rfl, hG4, hb4⟩
  have s4 := hb4.size
  have hb14 := hb13.trans hb4
  clear hG2
  go_wp2_with fail
  refine (heldIntSS_seq rss a2 c2 us2 [] w1.heap.size _ HU2.out hG4 hrl HR.out).mono ?_
  rintro e w4' ⟨rfl, rfl⟩
  go_wp2_with fail
  refine (HII.out _).mono ?_
  rintro e w5 ⟨a5, c5, us5, rfl, hu5, hF5, hb5⟩
  have HU5 := Lib.hid hu5
  have hG5 : Fam w5 w4.heap.size ((.slice a5 rss.length c5, 39, us5) :: (rowsF us5 rss ++ [])) := by rw [List.append_nil]; exact hF5
  have s5 := hb5.size
  have hb15 := hb14.trans (hb5.mono (by omega))
  clear hu5 hF5
  go_wp2_with fail
  refine (eqIntSS_same rss a5 a1 c5 c1 us5 us1 [] [] _ _ _ HU5.out HU1.out hG5 (HG1.out w5 hb15) hrl HR.out).mono ?_
  rintro e w6 ⟨rfl, hb6⟩
  have hb16 := hb15.trans (hb6.mono (by omega))
  go_wp2_with fail
  refine (heldIntSS_seq rss a2 c2 us2 [] w1.heap.size _ HU2.out ((hG4.later hb5).later hb6) hrl HR.out).mono ?_
  rintro e w6' ⟨rfl, rfl⟩
  go_wp2_with fail
  go_ret
  exact ⟨rfl, hb1.trans (hb16.mono s1)⟩
end Go.Proofs.Ythlbplmghjaeoad
