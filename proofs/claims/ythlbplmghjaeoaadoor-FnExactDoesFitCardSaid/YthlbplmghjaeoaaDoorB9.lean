/- Whether a board fits a clue, by the program. -/
import Derived.Test.YthlbplmghjaeoaaDoorB8
import Derived.Test.YthlbplmghjaeoaaDoorAJ
import Derived.Test.YthlbplmghjaeoaaDoorA7
import Derived.Test.YthlbplmghjaeoaaDoorKO
namespace Go.Proofs.YthlbplmghjaeoaaDoor
open Go.RowKit

theorem df_pz (l : List UInt8) (c : Clu) : dfB l c = pzB (gW l) (gH l) [c] := by
  unfold dfB pzB
  by_cases hg : boGoodM l = true
  · simp [hg]
  · have h1 : gW l = 0 := by simp [gW, hg]
    have h2 : gH l = 0 := by simp [gH, hg]
    simp [hg, h1, h2, hsB, szB, inB]
set_option maxRecDepth 100000 in
set_option maxHeartbeats 1600000 in
theorem iDoesFit_any (c : Clu) (l : List UInt8) (w : World) (hM : HasMax w) (hl : l.length ≤ 1048576) :
    Calls Tryd.prog 11 #[valC c, .string ⟨l.toArray⟩] w fun e w' => e = .returned (.tuple #[.bool (dfF l c), .bool (dfB l c)]) ∧ Below w.heap.size w w' := by
  have hb : Below w.heap.size w (w.alloc (.cells #[.int .i64 c.k, .int .i64 c.a, .int .i64 c.b] 26)) := (Below.refl _ _).alloc (Nat.le_refl _) _
  have hG := heap_alloc_new w (.cells #[.int .i64 c.k, .int .i64 c.a, .int .i64 c.b] 26)
  have hv : valC c = .agg #[.int .i64 c.k, .int .i64 c.a, .int .i64 c.b] := rfl
  have HB := Lib.hid (fun w hM => readBoard_any l w hM hl)
  cases hp : dfB l c with
  | false =>
    have hf : dfF l c = false := by simp [dfF, hp]
    have HR := Lib.hid (fun a cap w hat => readP_no (gW l) (gH l) a 1 cap [c] w rfl hat ((df_pz l c).symm.trans hp))
    rw [hf, hv]
    clear hp hf
    go_enter Tryd.func11, Tryd.ntmps11
    go_wp2_with fail
    refine (HB.out _ (hM.later hb)).mono ?_
    rintro e w1 ⟨a1, c1, rfl, hO1, hb1⟩
    have hb2 := hb.trans (hb1.mono hb.size)
    have hG1 := (hb1.block _ (block_lt hG)).trans hG
    clear hb hb1 hG
    go_upto_region 2 with fail
    have hb3 : Below w.heap.size w (w1.alloc (.cells #[.int .i64 (gW l), .int .i64 (gH l), .slice a1 (gCells l).length c1, .bool false] 58)) := hb2.alloc hb2.size _
    have hG2 := ((Below.refl w1.heap.size w1).alloc (Nat.le_refl _) (.cells #[.int .i64 (gW l), .int .i64 (gH l), .slice a1 (gCells l).length c1, .bool false] 58)).block _ (block_lt hG1)
    replace hG2 := hG2.trans hG1
    have hH2 := heap_alloc_new w1 (.cells #[.int .i64 (gW l), .int .i64 (gH l), .slice a1 (gCells l).length c1, .bool false] 58)
    generalize w1.alloc (.cells #[.int .i64 (gW l), .int .i64 (gH l), .slice a1 (gCells l).length c1, .bool false] 58) = w2 at *
    generalize w1.heap.size = GG at *
    have f0 := cell_of_block hG2 0
    have f1 := cell_of_block hG2 1
    have f2 := cell_of_block hG2 2
    have g0 := cell_of_block hH2 0
    have g1 := cell_of_block hH2 1
    simp at f0 f1 f2 g0 g1
    go_wp2_with fail
    refine (HR.out _ 1 _ (at_clue w2 c _)).mono ?_
    rintro e w3 ⟨rfl, hb4⟩
    have hb5 : Below w.heap.size w (w2.alloc (.cells #[.int .i64 c.k, .int .i64 c.a, .int .i64 c.b] 26)) := hb3.alloc hb3.size _
    have hb6 := hb5.trans (hb4.mono hb5.size)
    clear hb4 hb5 hb3 hb2 hG1 hG2 hH2 f0 f1 f2 g0 g1
    go_upto_region 3 with fail
    first
      | (go_region_law fail)
      | fail
    all_goals
      go_wp2_with fail
      go_ret2
      exact ⟨rfl, (hb6.alloc hb6.size _).drew⟩
  | true =>
    have hp' := (df_pz l c).symm.trans hp
    obtain ⟨W, H, eW, eH, hW, hH, h9, hs, h8, hc⟩ := pz_yes hp'
    have hcc := hc c List.mem_cons_self
    have hg : boGoodM l = true := by
      cases hg : boGoodM l with
      | true => rfl
      | false => rw [dfB, hg] at hp; cases hp
    have hBr : Brd l W H (gCells l) := by
      have h0 := Brd.of hg
      obtain ⟨g1, g2, g3⟩ := h0.grid
      rw [← g1, ← g2, ← g3] at h0
      rwa [show gW l = W by omega, show gH l = H by omega] at h0
    have hf : dfF l c = fitC W (gCells l) c := (df_yes hBr hs hcc).2
    have hlen := hBr.len
    have hb2 : Brd2 (gCells l) := hBr.sign
    rw [hf, hv]
    rw [eW, eH] at HB
    clear hp hp' hf hg
    have HR := Lib.hid (fun a cap w hat => readP_yes W H a 1 cap [c] w hW hH hs rfl h8 hc hat)
    have HL := Lib.hid (fun a cap w hat => listedOf_any W H a (gCells l) cap w hat hlen hW hH (by omega))
    have HF := Lib.hid (fun a cap w hat => fits_any W H 1 cap a [c] (gCells l) w hW hH h9 hlen hb2 rfl (by simp) hc hat)
    have hall : [c].all (fitC W (gCells l)) = fitC W (gCells l) c := by simp
    rw [hall] at HF
    clear hs h8 hc hb2 hBr hall hcc hlen eW eH
    generalize gCells l = cells at *
    generalize boGoodM l = bg at *
    go_enter Tryd.func11, Tryd.ntmps11
    go_wp2_with fail
    refine (HB.out _ (hM.later hb)).mono ?_
    rintro e w1 ⟨a1, c1, rfl, hO1, hb1⟩
    have hb2 := hb.trans (hb1.mono hb.size)
    have hG1 := (hb1.block _ (block_lt hG)).trans hG
    clear hb hb1 hG
    go_upto_region 2 with fail
    have hbx := (Below.refl w1.heap.size w1).alloc (Nat.le_refl _) (.cells #[.int .i64 W, .int .i64 H, .slice a1 cells.length c1, .bool false] 58)
    have hb3 : Below w.heap.size w (w1.alloc (.cells #[.int .i64 W, .int .i64 H, .slice a1 cells.length c1, .bool false] 58)) := hb2.alloc hb2.size _
    have hG2 := (hbx.block _ (block_lt hG1)).trans hG1
    have hH2 := heap_alloc_new w1 (.cells #[.int .i64 W, .int .i64 H, .slice a1 cells.length c1, .bool false] 58)
    have hA2 := hO1.at.later rfl hbx
    clear hbx hO1 hb2 hG1
    generalize w1.alloc (.cells #[.int .i64 W, .int .i64 H, .slice a1 cells.length c1, .bool false] 58) = w2 at *
    generalize w1.heap.size = GG at *
    have f0 := cell_of_block hG2 0
    have f1 := cell_of_block hG2 1
    have f2 := cell_of_block hG2 2
    have g0 := cell_of_block hH2 0
    have g1 := cell_of_block hH2 1
    simp at f0 f1 f2 g0 g1
    go_wp2_with fail
    refine (HR.out _ 1 _ (at_clue w2 c _)).mono ?_
    rintro e w3 ⟨v3, rfl, hR3, hb4⟩
    obtain ⟨a3, c3, hv3⟩ := hR3.shape
    subst hv3
    have hby := (Below.refl w2.heap.size w2).alloc (Nat.le_refl _) (.cells #[.int .i64 c.k, .int .i64 c.a, .int .i64 c.b] 26)
    have hb5 := hby.trans (hb4.mono hby.size)
    have hb6 := hb3.trans (hb5.mono hb3.size)
    have hH3 := (hb5.block _ (block_lt hH2)).trans hH2
    have hA3 := hA2.later rfl hb5
    clear hb3 hb4 hb5 hby hG2 hH2 hA2 f0 f1 f2 g0 g1
    go_upto_region 3 with fail
    have hbz := (Below.refl w3.heap.size w3).alloc (Nat.le_refl _) (.cells #[.int .i64 W, .int .i64 H, .slice a3 [c].length c3] 31)
    have hP4 := heap_alloc_new w3 (.cells #[.int .i64 W, .int .i64 H, .slice a3 [c].length c3] 31)
    have hH4 := (hbz.block _ (block_lt hH3)).trans hH3
    have hb7 := hb6.trans (hbz.mono hb6.size)
    have hA4 := hA3.later rfl hbz
    have hR4 := hR3.at.later rfl hbz
    clear hbz hH3 hb6 hA3 hR3
    generalize w3.alloc (.cells #[.int .i64 W, .int .i64 H, .slice a3 [c].length c3] 31) = w4 at *
    generalize w3.heap.size = PP at *
    have hS : w4.drew.rangeAt PP 0 [.int .i64 W, .int .i64 H, .slice a3 [c].length c3] ∧ w4.drew.rangeAt GG 0 [.int .i64 W, .int .i64 H, .slice a1 cells.length c1, .bool false] := ⟨range3 (cell_of_block hP4 0) (cell_of_block hP4 1) (cell_of_block hP4 2), fun j v hv => by rw [Nat.zero_add]; exact (cell_of_block hH4 j).trans ((List.getElem?_toArray ..).trans hv)⟩
    refine wp_region_held_drew (S := fun w' => w'.rangeAt PP 0 [.int .i64 W, .int .i64 H, .slice a3 [c].length c3] ∧ w'.rangeAt GG 0 [.int .i64 W, .int .i64 H, .slice a1 cells.length c1, .bool false]) (by kernel_rfl) hS (fun hH => ?_)
    refine wpAnyH_take (i := 0) (v := .bool true) rfl (by kernel_rfl) (by kernel_rfl) (by kernel_rfl) (fun _ _ _ h => h) (Or.inl ⟨by rfl, fun _ _ => rfl⟩) hH ?_
    simp only [Act.put, List.setIfInBounds_toArray, List.set_cons_zero, List.set_cons_succ]
    refine wpAnyH_take (i := 1) (v := .bool true) rfl (by kernel_rfl) (by kernel_rfl) (by kernel_rfl) (fun _ _ _ h => h) (Or.inl ⟨by rfl, fun _ _ => rfl⟩) hH ?_
    simp only [Act.put, List.setIfInBounds_toArray, List.set_cons_zero, List.set_cons_succ]
    refine wpAnyH_take (i := 2) (v := .agg #[.int .i64 W, .int .i64 H, .slice a3 [c].length c3]) rfl (by kernel_rfl) (by kernel_rfl) (by kernel_rfl) (fun _ _ _ h => h) (yieldsIf_load_mid (by rfl) 31 _ rfl PP 0 rfl [.int .i64 W, .int .i64 H, .slice a3 [c].length c3] _ (fun _ h => h.1) Tryd.underlying31 rfl infPuz) hH ?_
    simp only [Act.put, List.setIfInBounds_toArray, List.set_cons_zero, List.set_cons_succ]
    refine wpAnyH_take (i := 3) (v := .agg #[.int .i64 W, .int .i64 H, .slice a1 cells.length c1, .bool false]) rfl (by kernel_rfl) (by kernel_rfl) (by kernel_rfl) (fun _ _ _ h => h) (yieldsIf_load_mid (by rfl) 58 _ rfl GG 0 rfl [.int .i64 W, .int .i64 H, .slice a1 cells.length c1, .bool false] _ (fun _ h => h.2) Tryd.underlying58 rfl (by kernel_rfl)) hH ?_
    simp only [Act.put, List.setIfInBounds_toArray, List.set_cons_zero, List.set_cons_succ]
    refine wpAnyH_take (i := 7) (v := .bool true) rfl (by kernel_rfl) (by kernel_rfl) (by kernel_rfl) (fun _ _ _ h => h) (Or.inl ⟨by rfl, fun _ _ => rfl⟩) hH ?_
    simp only [Act.put, List.setIfInBounds_toArray, List.set_cons_zero, List.set_cons_succ]
    refine wpAnyH_ready (rs := [4]) (by kernel_rfl) (by simp) ?_
    refine AllReadyH.cons rfl (fun K hK => ?_) AllReadyH.nil
    go_simp
    refine (HL.out a1 c1 w4.drew hA4).mono ?_
    rintro e w5 ⟨rfl, hb8⟩
    have hb9 := hb7.trans ((ofDrewC hb8).mono hb7.size)
    have hS5 := And.intro (range_later hS.1 hb8) (range_later hS.2 hb8)
    have hR5 : At w5 a3 (flatC [c]) := hR4.later rfl (ofDrewC hb8)
    go_wp2_with fail
    refine hK.out _ _ hS5 (fun hH5 => ?_)
    clear hK K hH
    refine wpAnyH_ready (rs := [5]) (by kernel_rfl) (by simp) ?_
    refine AllReadyH.cons rfl (fun K hK => ?_) AllReadyH.nil
    go_simp
    refine (HF.out a3 c3 _ hR5).mono ?_
    rintro e w6 ⟨rfl, hb10⟩
    have hb11 := hb9.trans (hb10.mono hb9.size)
    have hS6 := And.intro (range_later hS5.1 hb10) (range_later hS5.2 hb10)
    go_wp2_with fail
    refine hK.out _ _ hS6 (fun hH6 => ?_)
    clear hK K hH5
    refine wpAnyH_ready (rs := [6]) (by kernel_rfl) (by simp) ?_
    refine AllReadyH.cons rfl (fun K hK => ?_) AllReadyH.nil
    go_simp
    refine hK.out _ _ hS6 (fun hH7 => ?_)
    clear hK K hH6
    refine wpAnyH_ready (rs := [8]) (by kernel_rfl) (by simp) ?_
    refine AllReadyH.cons rfl (fun K hK => ?_) AllReadyH.nil
    go_simp
    refine hK.out _ _ hS6 (fun hH8 => ?_)
    clear hK K hH7
    refine wpAnyH_ready (rs := [9]) (by kernel_rfl) (by simp) ?_
    refine AllReadyH.cons rfl (fun K hK => ?_) AllReadyH.nil
    go_simp
    refine hK.out _ _ hS6 (fun hH9 => ?_)
    clear hK K hH8
    refine wpAnyH_done (by kernel_rfl) ?_ _
    go_wp2_with fail
    go_ret2
    exact ⟨rfl, hb11⟩
end Go.Proofs.YthlbplmghjaeoaaDoor
