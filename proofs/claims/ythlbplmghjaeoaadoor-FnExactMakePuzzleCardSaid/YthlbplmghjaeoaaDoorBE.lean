/- Puzzles that are made, by the program. -/
import Derived.Test.YthlbplmghjaeoaaDoorBC
import Derived.Test.YthlbplmghjaeoaaDoorBD
import Derived.Test.YthlbplmghjaeoaaDoorKO
import Derived.Deep.DeepCutAuto
namespace Go.Proofs.YthlbplmghjaeoaaDoor
open Go.RowKit

theorem region_cut2 {P : Program} {c : Code} {K : Act → World → Prop} {Q : Exit → Act → World → Prop} {a : Act} {w : World} (M : Act → Act → World → Prop)
    (h1 : c.wp P (Exit.then (M a) (fun _ _ _ => False)) a w) (h2 : ∀ a' w', M a a' w' → K a' w') : c.wp P (Exit.then K Q) a w :=
  wp_mono h1 fun e a' w' h => by
    cases e <;> first | exact h2 _ _ h | exact h.elim
theorem RowC.spare {w w' : World} {B g : Nat} {v : Value} {cs : List Clu} {cur : Array Value} {t : TypeId} {fr : Nat × Nat} (h : RowC w B v cs) (hg : w.heap[g]? = some (.cells cur t fr)) (ht : t ≠ 26) (hs : Spare g w w') : RowC w' B v cs := by
  obtain ⟨a, cap, hv, h1, h2, h3, h4⟩ := h
  refine ⟨a, cap, hv, h1, h2, h3, fun ad ha => ?_⟩
  obtain ⟨g', rfl, hg', cur', hh, r⟩ := h4 ad ha
  have hne : g' ≠ g := by
    rintro rfl
    rw [hg] at hh
    simp at hh
    exact ht hh.2.1
  exact ⟨g', rfl, hg', cur', (hs.2 g' (block_lt hh) hne).trans hh, r⟩
set_option maxRecDepth 100000 in
set_option maxHeartbeats 6400000 in
theorem iMake_yes (l : List UInt8) (W H n s : Nat) (w : World) (hM : HasMax w) (hl : l.length ≤ 1048576) (hB : Brd l W H (gCells l)) (hs : hsB W H = true) (h9 : W * H ≤ 9) (hn : n ≤ 8) (hs9 : s ≤ 9999) :
    Calls Tryd.prog 13 #[.string ⟨l.toArray⟩, .int .i64 n, .int .i64 s] w fun e w' => ∃ v, e = .returned (.tuple #[.agg #[.int .i64 W, .int .i64 H, v], .bool true]) ∧ RowC w' w.heap.size v (mkL W H (gCells l) n s) ∧ Below w.heap.size w w' := by
  have HB := Lib.hid (fun w hM => readBoard_any l w hM hl)
  obtain ⟨g1, g2, g3⟩ := hB.grid
  rw [hB.good, g1, g2] at HB
  have HI := Lib.hid (fun w => isHidden_any (W : Int) (H : Int) w)
  rw [hs] at HI
  have hb2 : Brd2 (gCells l) := hB.sign
  have hlen := hB.len
  have hW : 1 ≤ W ∧ W ≤ 8 := ⟨hB.w1, hB.w8⟩
  have hH : 1 ≤ H ∧ H ≤ 8 := ⟨hB.h1, hB.h8⟩
  have HL := Lib.hid (fun a cap w hat => listedOf_any W H a (gCells l) cap w hat hlen hW hH (by omega))
  have HD := Lib.hid (fun m cap g z a t w hz hg => drawClue_any W H m cap g z a (gCells l) t w hW hH h9 hlen hb2 hz hg)
  clear hB g1 g2 g3 hs hlen hb2
  generalize gCells l = cells at *
  have hb0 : Below w.heap.size w (w.alloc (.cells #[.int .i64 0, .int .i64 0, .slice none 0 0] 31)) := (Below.refl _ _).alloc (Nat.le_refl _) _
  have hE0 := heap_alloc_new w (.cells #[.int .i64 0, .int .i64 0, .slice none 0 0] 31)
  go_enter Tryd.func13, Tryd.ntmps13
  go_wp2_with fail
  generalize w.alloc (.cells #[.int .i64 0, .int .i64 0, .slice none 0 0] 31) = w0 at *
  refine (HB.out _ (hM.later hb0)).mono ?_
  rintro e w1 ⟨a1, c1, rfl, hO1, hb1⟩
  have hB1 := hb0.trans (hb1.mono hb0.size)
  have hE1 := (hb1.block _ (block_lt hE0)).trans hE0
  clear hb0 hb1 hE0
  go_wp2_with fail
  have hbx := (Below.refl w1.heap.size w1).alloc (Nat.le_refl _) (.cells #[.int .i64 W, .int .i64 H, .slice a1 cells.length c1, .bool false] 58)
  have hH2 := heap_alloc_new w1 (.cells #[.int .i64 W, .int .i64 H, .slice a1 cells.length c1, .bool false] 58)
  have hE2 := (hbx.block _ (block_lt hE1)).trans hE1
  have hA2 := hO1.at.later rfl hbx
  have hB2 := hB1.trans (hbx.mono hB1.size)
  have hEG : w.heap.size < w1.heap.size := block_lt hE1
  clear hbx hE1 hO1 hB1
  generalize w1.alloc (.cells #[.int .i64 W, .int .i64 H, .slice a1 cells.length c1, .bool false] 58) = w2 at *
  generalize w1.heap.size = GG at *
  refine (HI.out _).mono ?_
  rintro e w2' ⟨rfl, rfl⟩
  have g0 := cell_of_block hH2 0
  have g1 := cell_of_block hH2 1
  have g2 := cell_of_block hH2 2
  have g3 := cell_of_block hH2 3
  simp at g0 g1 g2 g3
  have hn1 : ¬ ((n : Int) < 0) := by omega
  have hn2 : ¬ ((8 : Int) < (n : Int)) := by omega
  have hs1 : ¬ ((s : Int) < 0) := by omega
  have hs2 : ¬ ((9999 : Int) < (s : Int)) := by omega
  go_upto_region 4 with fail
  -- CUT
  refine region_cut2 (M := fun a0 a' w' => ∃ (u41 u42 u43 u44 u45 u46 u47 u48 : Value) (PP BL DD : Nat), a' = ⟨(((((((((((a0.tmps.setIfInBounds 41 u41).setIfInBounds 42 u42).setIfInBounds 43 u43).setIfInBounds 44 u44).setIfInBounds 45 u45).setIfInBounds 46 u46).setIfInBounds 47 u47).setIfInBounds 48 u48).setIfInBounds 10 (.pointer (some ⟨PP, 0, none⟩))).setIfInBounds 11 (.pointer (some ⟨BL, 0, none⟩))).setIfInBounds 12 (.pointer (some ⟨DD, 0, none⟩))), a0.defers⟩ ∧ PP ≠ BL ∧ PP ≠ DD ∧ BL ≠ DD ∧ w.heap.size < PP ∧ w.heap.size < BL ∧ w.heap.size < DD ∧ w'.heap[PP]? = some (.cells #[.int .i64 W, .int .i64 H, .slice none 0 0] 31 (0, 0)) ∧ BoxB w' BL (preB W (W * H) cells) ∧ w'.heap[DD]? = some (.cells #[.int .i64 s] 71 (0, 0)) ∧ w'.heap[w.heap.size]? = some (.cells #[.int .i64 0, .int .i64 0, .slice none 0 0] 31 (0, 0)) ∧ Below w.heap.size w w') ?_ ?_
  ·
    have hS0 : w2.rangeAt GG 0 [.int .i64 W, .int .i64 H, .slice a1 cells.length c1, .bool false] := fun j v hv => by rw [Nat.zero_add]; exact (cell_of_block hH2 j).trans ((List.getElem?_toArray ..).trans hv)
    have hne0 : w.heap.size < GG := hEG
    have hSd : w2.drew.rangeAt GG 0 [.int .i64 W, .int .i64 H, .slice a1 cells.length c1, .bool false] := hS0
    have hEd : w2.drew.heap[w.heap.size]? = some (.cells #[.int .i64 0, .int .i64 0, .slice none 0 0] 31 (0, 0)) := hE2
    have hAd : At w2.drew a1 (byts cells) := hA2
    have hBd : Below w.heap.size w w2.drew := hB2.trans ((Below.refl w.heap.size w2).drew)
    have hGd : GG < w2.drew.heap.size := block_lt hH2
    refine wp_region_held_drew (S := fun w' => w'.rangeAt GG 0 [.int .i64 W, .int .i64 H, .slice a1 cells.length c1, .bool false]) (by kernel_rfl) hSd (fun hH => ?_)
    clear hS0 hE2 hA2 hB2 hH2 g0 g1 g2 g3
    generalize w2.drew = v0 at *
    refine wpAnyH_take (i := 0) (v := .pointer (some ⟨GG, 0, none⟩)) rfl (by kernel_rfl) (by kernel_rfl) (by kernel_rfl) (fun _ _ _ h => h) (Or.inl ⟨by rfl, fun w' _ => by unfold execOp; go_simp⟩) hH ?_
    simp only [Act.put, List.setIfInBounds_toArray, List.set_cons_zero, List.set_cons_succ]
    refine wpAnyH_take (i := 1) (v := .int .i64 W) rfl (by kernel_rfl) (by kernel_rfl) (by kernel_rfl) (fun _ _ _ h => h) (Or.inl ⟨by rfl, fun w' hw => by have p0 := hw 0 _ rfl; unfold execOp; go_simp⟩) hH ?_
    simp only [Act.put, List.setIfInBounds_toArray, List.set_cons_zero, List.set_cons_succ]
    refine wpAnyH_take (i := 2) (v := .pointer (some ⟨GG, 1, none⟩)) rfl (by kernel_rfl) (by kernel_rfl) (by kernel_rfl) (fun _ _ _ h => h) (Or.inl ⟨by rfl, fun w' _ => by unfold execOp; go_simp⟩) hH ?_
    simp only [Act.put, List.setIfInBounds_toArray, List.set_cons_zero, List.set_cons_succ]
    refine wpAnyH_take (i := 3) (v := .int .i64 H) rfl (by kernel_rfl) (by kernel_rfl) (by kernel_rfl) (fun _ _ _ h => h) (Or.inl ⟨by rfl, fun w' hw => by have p0 := hw 1 _ rfl; unfold execOp; go_simp⟩) hH ?_
    simp only [Act.put, List.setIfInBounds_toArray, List.set_cons_zero, List.set_cons_succ]
    refine wpAnyH_take (i := 4) (v := .agg #[.int .i64 W, .int .i64 H, .slice none 0 0]) rfl (by kernel_rfl) (by kernel_rfl) (by kernel_rfl) (fun _ _ _ h => h) (Or.inl ⟨by rfl, fun w' _ => by unfold execOp; go_simp⟩) hH ?_
    simp only [Act.put, List.setIfInBounds_toArray, List.set_cons_zero, List.set_cons_succ]
    refine wpAnyH_take (i := 5) (v := .agg #[.int .i64 W, .int .i64 H, .slice a1 cells.length c1, .bool false]) rfl (by kernel_rfl) (by kernel_rfl) (by kernel_rfl) (fun _ _ _ h => h) (yieldsIf_load_mid (by rfl) 58 _ rfl GG 0 rfl [.int .i64 W, .int .i64 H, .slice a1 cells.length c1, .bool false] _ (fun _ h => h) Tryd.underlying58 rfl (by kernel_rfl)) hH ?_
    simp only [Act.put, List.setIfInBounds_toArray, List.set_cons_zero, List.set_cons_succ]
    refine wpAnyH_take (i := 7) (v := _) rfl (by kernel_rfl) (by kernel_rfl) (by kernel_rfl) (fun _ _ _ h => h) (Or.inl ⟨by rfl, fun _ _ => rfl⟩) hH ?_
    simp only [Act.put, List.setIfInBounds_toArray, List.set_cons_zero, List.set_cons_succ]
    clear hH
    refine wpAnyH_ready (rs := [6, 8, 9, 10]) (by kernel_rfl) (by simp) ?_
    refine AllReadyH.cons rfl (fun K hK => ?_) (AllReadyH.cons rfl (fun K hK => ?_) (AllReadyH.cons rfl (fun K hK => ?_) (AllReadyH.cons rfl (fun K hK => ?_) AllReadyH.nil)))
    · go_simp
      refine (HL.out a1 c1 v0 hAd).mono ?_
      rintro e v1 ⟨rfl, hbk⟩
      have hS1 := range_later hSd hbk
      have hE1 := (hbk.block _ (block_lt hEd)).trans hEd
      have hA1 := hAd.later rfl hbk
      have hB1 := hBd.trans (hbk.mono hBd.size)
      have hG1 := Nat.lt_of_lt_of_le hGd hbk.size
      clear hbk hSd hEd hAd hBd hGd
      go_wp2_with fail
      refine hK.out _ _ hS1 (fun _ => ?_)
      clear hK K
      refine wpAnyH_ready (rs := [8, 9, 10]) (by kernel_rfl) (by simp) ?_
      refine AllReadyH.cons rfl (fun K hK => ?_) (AllReadyH.cons rfl (fun K hK => ?_) (AllReadyH.cons rfl (fun K hK => ?_) AllReadyH.nil))
      · go_simp
        have hbk : Below v1.heap.size v1 (v1.alloc (.cells #[.int .i64 0, .int .i64 0, .slice none 0 0] 31)) := (Below.refl _ _).alloc (Nat.le_refl _) _
        have hS2 := range_later hS1 hbk
        have hE2 := (hbk.block _ (block_lt hE1)).trans hE1
        have hA2 := hA1.later rfl hbk
        have hB2 := hB1.trans (hbk.mono hB1.size)
        have hG2 := Nat.lt_of_lt_of_le hG1 hbk.size
        have hP2 : (v1.alloc (.cells #[.int .i64 0, .int .i64 0, .slice none 0 0] 31)).heap[v1.heap.size]? = some (.cells #[.int .i64 0, .int .i64 0, .slice none 0 0] 31 (0, 0)) := heap_alloc_new v1 (.cells #[.int .i64 0, .int .i64 0, .slice none 0 0] 31)
        have hgP : GG < v1.heap.size := hG1
        refine hK.out _ _ hS2 (fun _ => ?_)
        clear hK K
        clear hbk hS1 hE1 hA1 hB1 hG1
        generalize v1.alloc (.cells #[.int .i64 0, .int .i64 0, .slice none 0 0] 31) = v2 at *
        generalize v1.heap.size = PP at *
        refine wpAnyH_ready (rs := [9, 10]) (by kernel_rfl) (by simp) ?_
        refine AllReadyH.cons rfl (fun K hK => ?_) (AllReadyH.cons rfl (fun K hK => ?_) AllReadyH.nil)
        · go_simp
          have hbk : Below v2.heap.size v2 (v2.alloc (.cells #[.int .u8 0, .int .u8 0, .int .u8 0, .int .u8 0, .int .u8 0, .int .u8 0, .int .u8 0, .int .u8 0, .int .u8 0, .int .u8 0, .int .u8 0, .int .u8 0, .int .u8 0, .int .u8 0, .int .u8 0, .int .u8 0, .int .u8 0, .int .u8 0, .int .u8 0, .int .u8 0, .int .u8 0, .int .u8 0, .int .u8 0, .int .u8 0] 65)) := (Below.refl _ _).alloc (Nat.le_refl _) _
          have hS3 := range_later hS2 hbk
          have hE3 := (hbk.block _ (block_lt hE2)).trans hE2
          have hA3 := hA2.later rfl hbk
          have hB3 := hB2.trans (hbk.mono hB2.size)
          have hG3 := Nat.lt_of_lt_of_le hG2 hbk.size
          have hP3 := (hbk.block _ (block_lt hP2)).trans hP2
          have hL3 : (v2.alloc (.cells #[.int .u8 0, .int .u8 0, .int .u8 0, .int .u8 0, .int .u8 0, .int .u8 0, .int .u8 0, .int .u8 0, .int .u8 0, .int .u8 0, .int .u8 0, .int .u8 0, .int .u8 0, .int .u8 0, .int .u8 0, .int .u8 0, .int .u8 0, .int .u8 0, .int .u8 0, .int .u8 0, .int .u8 0, .int .u8 0, .int .u8 0, .int .u8 0] 65)).heap[v2.heap.size]? = some (.cells zer 65 (0, 0)) := heap_alloc_new v2 (.cells #[.int .u8 0, .int .u8 0, .int .u8 0, .int .u8 0, .int .u8 0, .int .u8 0, .int .u8 0, .int .u8 0, .int .u8 0, .int .u8 0, .int .u8 0, .int .u8 0, .int .u8 0, .int .u8 0, .int .u8 0, .int .u8 0, .int .u8 0, .int .u8 0, .int .u8 0, .int .u8 0, .int .u8 0, .int .u8 0, .int .u8 0, .int .u8 0] 65)
          have hgL : GG < v2.heap.size := hG2
          have hlPL : PP < v2.heap.size := block_lt hP2
          refine hK.out _ _ hS3 (fun _ => ?_)
          clear hK K
          clear hbk hS2 hE2 hA2 hB2 hG2 hP2
          generalize v2.alloc (.cells #[.int .u8 0, .int .u8 0, .int .u8 0, .int .u8 0, .int .u8 0, .int .u8 0, .int .u8 0, .int .u8 0, .int .u8 0, .int .u8 0, .int .u8 0, .int .u8 0, .int .u8 0, .int .u8 0, .int .u8 0, .int .u8 0, .int .u8 0, .int .u8 0, .int .u8 0, .int .u8 0, .int .u8 0, .int .u8 0, .int .u8 0, .int .u8 0] 65) = v3 at *
          generalize v2.heap.size = BL at *
          refine wpAnyH_ready (rs := [10]) (by kernel_rfl) (by simp) ?_
          refine AllReadyH.cons rfl (fun K hK => ?_) AllReadyH.nil
          · go_simp
            have hbk : Below v3.heap.size v3 (v3.alloc (.cells #[.int .i64 0] 71)) := (Below.refl _ _).alloc (Nat.le_refl _) _
            have hS4 := range_later hS3 hbk
            have hE4 := (hbk.block _ (block_lt hE3)).trans hE3
            have hA4 := hA3.later rfl hbk
            have hB4 := hB3.trans (hbk.mono hB3.size)
            have hG4 := Nat.lt_of_lt_of_le hG3 hbk.size
            have hP4 := (hbk.block _ (block_lt hP3)).trans hP3
            have hL4 := (hbk.block _ (block_lt hL3)).trans hL3
            have hD4 : (v3.alloc (.cells #[.int .i64 0] 71)).heap[v3.heap.size]? = some (.cells #[.int .i64 0] 71 (0, 0)) := heap_alloc_new v3 (.cells #[.int .i64 0] 71)
            have hgD : GG < v3.heap.size := hG3
            have hlPD : PP < v3.heap.size := block_lt hP3
            have hlLD : BL < v3.heap.size := block_lt hL3
            refine hK.out _ _ hS4 (fun _ => ?_)
            clear hK K
            clear hbk hS3 hE3 hA3 hB3 hG3 hP3 hL3
            generalize v3.alloc (.cells #[.int .i64 0] 71) = v4 at *
            generalize v3.heap.size = DD at *
            have hd1 : PP ≠ BL ∧ PP ≠ DD ∧ BL ≠ DD := by omega
            have hzP0 := cell_of_block hP4 0
            have hzP1 := cell_of_block hP4 1
            have hzP2 := cell_of_block hP4 2
            have hzf := frozen_of_block hP4
            simp at hzP0 hzP1 hzP2
            obtain ⟨hP5, hb5⟩ := puzzle_stored (B := w.heap.size) hP4 (by omega) (.int .i64 W) (.int .i64 H) (.slice none 0 0)
            have hO5 : ∀ b, b ≠ PP → (((v4.setCell ⟨PP, 0, none⟩ (.int .i64 W)).setCell ⟨PP, 1, none⟩ (.int .i64 H)).setCell ⟨PP, 2, none⟩ (.slice none 0 0)).heap[b]? = v4.heap[b]? := fun b hb => (away_setC hb).trans ((away_setC hb).trans (away_setC hb))
            have hS5 := range_heap hS4 (hO5 GG (by omega))
            have hE5 := (hO5 w.heap.size (by omega)).trans hE4
            have hL5 := (hO5 BL (by omega)).trans hL4
            have hD5 := (hO5 DD (by omega)).trans hD4
            have hB5 := hB4.trans hb5
            refine wpAnyH_ready (rs := [11]) (by kernel_rfl) (by simp) ?_
            refine AllReadyH.cons rfl (fun K hK => ?_) AllReadyH.nil
            go_simp
            refine hK.out _ _ hS5 (fun _ => ?_)
            clear hK K
            clear hO5 hb5 hS4 hE4 hA4 hB4 hG4 hP4 hL4 hD4 hzP0 hzP1 hzP2 hzf
            generalize ((v4.setCell ⟨PP, 0, none⟩ (.int .i64 W)).setCell ⟨PP, 1, none⟩ (.int .i64 H)).setCell ⟨PP, 2, none⟩ (.slice none 0 0) = v5 at *
            refine wpAnyH_ready (rs := [12]) (by kernel_rfl) (by simp) ?_
            refine AllReadyH.cons rfl (fun K hK => ?_) AllReadyH.nil
            rw [if_pos (by rfl)]
            refine wp_store_mid 65 _ _ rfl BL 0 (encB (preB W (W * H) cells)).toArray rfl rfl (by rw [encB_size]; exact there24 hL5 rfl) (inf67.trans (by rw [encB_size])) (all_oneCell_toArray (encB_one _)) ?_
            have hL6 : BoxB (v5.setCells BL 0 (encB (preB W (W * H) cells))) BL (preB W (W * H) cells) := ⟨World.rangeAt_setCells_same _ _ 0 _ (by rw [encB_len]; exact there24 hL5 rfl), World.there_setCells (there24 hL5 rfl) BL 0 _⟩
            have hO6 : ∀ b, b ≠ BL → (v5.setCells BL 0 (encB (preB W (W * H) cells))).heap[b]? = v5.heap[b]? := fun b hb => heap_setCells hb _ 0 v5
            have hS6 := range_heap hS5 (hO6 GG (by omega))
            have hE6 := (hO6 w.heap.size (by omega)).trans hE5
            have hP6 := (hO6 PP (by omega)).trans hP5
            have hD6 := (hO6 DD (by omega)).trans hD5
            have hB6 : Below w.heap.size w (v5.setCells BL 0 (encB (preB W (W * H) cells))) := below_setCells _ 0 hB5 (by omega)
            refine hK.out _ _ hS6 (fun _ => ?_)
            clear hK K hO6 hS5 hE5 hP5 hL5 hD5 hB5
            generalize v5.setCells BL 0 (encB (preB W (W * H) cells)) = v6 at *
            have hzD := cell_of_block hD6 0
            have hzg := frozen_of_block hD6 0
            simp at hzD
            refine wpAnyH_ready (rs := [13]) (by kernel_rfl) (by simp) ?_
            refine AllReadyH.cons rfl (fun K hK => ?_) AllReadyH.nil
            go_simp
            have hO7 : ∀ b, b ≠ DD → (v6.setCell ⟨DD, 0, none⟩ (.int .i64 s)).heap[b]? = v6.heap[b]? := fun b hb => away_setC hb
            refine hK.out _ _ (range_heap hS6 (hO7 GG (by omega))) (fun _ => ?_)
            clear hK K
            refine wpAnyH_done (by kernel_rfl) ?_ _
            refine ⟨.pointer (some ⟨GG, 0, none⟩), .int .i64 W, .pointer (some ⟨GG, 1, none⟩), .int .i64 H, .agg #[.int .i64 W, .int .i64 H, .slice none 0 0], .agg #[.int .i64 W, .int .i64 H, .slice a1 cells.length c1, .bool false], .agg (encB (preB W (W * H) cells)).toArray, .int .i64 s, PP, BL, DD, ?_, hd1.1, hd1.2.1, hd1.2.2, by omega, by omega, by omega, (hO7 PP (by omega)).trans hP6, hL6.heap (hO7 BL (by omega)), block_set hD6 0 _, (hO7 w.heap.size (by omega)).trans hE6, hB6.trans ((Below.set 0 _).mono (by omega))⟩
            first | rfl | (simp only [Act.put, List.setIfInBounds_toArray, List.set_cons_zero, List.set_cons_succ]; rfl)
        · go_simp
          have hbk : Below v2.heap.size v2 (v2.alloc (.cells #[.int .i64 0] 71)) := (Below.refl _ _).alloc (Nat.le_refl _) _
          have hS3 := range_later hS2 hbk
          have hE3 := (hbk.block _ (block_lt hE2)).trans hE2
          have hA3 := hA2.later rfl hbk
          have hB3 := hB2.trans (hbk.mono hB2.size)
          have hG3 := Nat.lt_of_lt_of_le hG2 hbk.size
          have hP3 := (hbk.block _ (block_lt hP2)).trans hP2
          have hD3 : (v2.alloc (.cells #[.int .i64 0] 71)).heap[v2.heap.size]? = some (.cells #[.int .i64 0] 71 (0, 0)) := heap_alloc_new v2 (.cells #[.int .i64 0] 71)
          have hgD : GG < v2.heap.size := hG2
          have hlPD : PP < v2.heap.size := block_lt hP2
          refine hK.out _ _ hS3 (fun _ => ?_)
          clear hK K
          clear hbk hS2 hE2 hA2 hB2 hG2 hP2
          generalize v2.alloc (.cells #[.int .i64 0] 71) = v3 at *
          generalize v2.heap.size = DD at *
          refine wpAnyH_ready (rs := [9]) (by kernel_rfl) (by simp) ?_
          refine AllReadyH.cons rfl (fun K hK => ?_) AllReadyH.nil
          · go_simp
            have hbk : Below v3.heap.size v3 (v3.alloc (.cells #[.int .u8 0, .int .u8 0, .int .u8 0, .int .u8 0, .int .u8 0, .int .u8 0, .int .u8 0, .int .u8 0, .int .u8 0, .int .u8 0, .int .u8 0, .int .u8 0, .int .u8 0, .int .u8 0, .int .u8 0, .int .u8 0, .int .u8 0, .int .u8 0, .int .u8 0, .int .u8 0, .int .u8 0, .int .u8 0, .int .u8 0, .int .u8 0] 65)) := (Below.refl _ _).alloc (Nat.le_refl _) _
            have hS4 := range_later hS3 hbk
            have hE4 := (hbk.block _ (block_lt hE3)).trans hE3
            have hA4 := hA3.later rfl hbk
            have hB4 := hB3.trans (hbk.mono hB3.size)
            have hG4 := Nat.lt_of_lt_of_le hG3 hbk.size
            have hP4 := (hbk.block _ (block_lt hP3)).trans hP3
            have hD4 := (hbk.block _ (block_lt hD3)).trans hD3
            have hL4 : (v3.alloc (.cells #[.int .u8 0, .int .u8 0, .int .u8 0, .int .u8 0, .int .u8 0, .int .u8 0, .int .u8 0, .int .u8 0, .int .u8 0, .int .u8 0, .int .u8 0, .int .u8 0, .int .u8 0, .int .u8 0, .int .u8 0, .int .u8 0, .int .u8 0, .int .u8 0, .int .u8 0, .int .u8 0, .int .u8 0, .int .u8 0, .int .u8 0, .int .u8 0] 65)).heap[v3.heap.size]? = some (.cells zer 65 (0, 0)) := heap_alloc_new v3 (.cells #[.int .u8 0, .int .u8 0, .int .u8 0, .int .u8 0, .int .u8 0, .int .u8 0, .int .u8 0, .int .u8 0, .int .u8 0, .int .u8 0, .int .u8 0, .int .u8 0, .int .u8 0, .int .u8 0, .int .u8 0, .int .u8 0, .int .u8 0, .int .u8 0, .int .u8 0, .int .u8 0, .int .u8 0, .int .u8 0, .int .u8 0, .int .u8 0] 65)
            have hgL : GG < v3.heap.size := hG3
            have hlPL : PP < v3.heap.size := block_lt hP3
            have hlDL : DD < v3.heap.size := block_lt hD3
            refine hK.out _ _ hS4 (fun _ => ?_)
            clear hK K
            clear hbk hS3 hE3 hA3 hB3 hG3 hP3 hD3
            generalize v3.alloc (.cells #[.int .u8 0, .int .u8 0, .int .u8 0, .int .u8 0, .int .u8 0, .int .u8 0, .int .u8 0, .int .u8 0, .int .u8 0, .int .u8 0, .int .u8 0, .int .u8 0, .int .u8 0, .int .u8 0, .int .u8 0, .int .u8 0, .int .u8 0, .int .u8 0, .int .u8 0, .int .u8 0, .int .u8 0, .int .u8 0, .int .u8 0, .int .u8 0] 65) = v4 at *
            generalize v3.heap.size = BL at *
            have hd1 : PP ≠ BL ∧ PP ≠ DD ∧ BL ≠ DD := by omega
            have hzP0 := cell_of_block hP4 0
            have hzP1 := cell_of_block hP4 1
            have hzP2 := cell_of_block hP4 2
            have hzf := frozen_of_block hP4
            simp at hzP0 hzP1 hzP2
            obtain ⟨hP5, hb5⟩ := puzzle_stored (B := w.heap.size) hP4 (by omega) (.int .i64 W) (.int .i64 H) (.slice none 0 0)
            have hO5 : ∀ b, b ≠ PP → (((v4.setCell ⟨PP, 0, none⟩ (.int .i64 W)).setCell ⟨PP, 1, none⟩ (.int .i64 H)).setCell ⟨PP, 2, none⟩ (.slice none 0 0)).heap[b]? = v4.heap[b]? := fun b hb => (away_setC hb).trans ((away_setC hb).trans (away_setC hb))
            have hS5 := range_heap hS4 (hO5 GG (by omega))
            have hE5 := (hO5 w.heap.size (by omega)).trans hE4
            have hL5 := (hO5 BL (by omega)).trans hL4
            have hD5 := (hO5 DD (by omega)).trans hD4
            have hB5 := hB4.trans hb5
            refine wpAnyH_ready (rs := [11]) (by kernel_rfl) (by simp) ?_
            refine AllReadyH.cons rfl (fun K hK => ?_) AllReadyH.nil
            go_simp
            refine hK.out _ _ hS5 (fun _ => ?_)
            clear hK K
            clear hO5 hb5 hS4 hE4 hA4 hB4 hG4 hP4 hL4 hD4 hzP0 hzP1 hzP2 hzf
            generalize ((v4.setCell ⟨PP, 0, none⟩ (.int .i64 W)).setCell ⟨PP, 1, none⟩ (.int .i64 H)).setCell ⟨PP, 2, none⟩ (.slice none 0 0) = v5 at *
            refine wpAnyH_ready (rs := [12]) (by kernel_rfl) (by simp) ?_
            refine AllReadyH.cons rfl (fun K hK => ?_) AllReadyH.nil
            rw [if_pos (by rfl)]
            refine wp_store_mid 65 _ _ rfl BL 0 (encB (preB W (W * H) cells)).toArray rfl rfl (by rw [encB_size]; exact there24 hL5 rfl) (inf67.trans (by rw [encB_size])) (all_oneCell_toArray (encB_one _)) ?_
            have hL6 : BoxB (v5.setCells BL 0 (encB (preB W (W * H) cells))) BL (preB W (W * H) cells) := ⟨World.rangeAt_setCells_same _ _ 0 _ (by rw [encB_len]; exact there24 hL5 rfl), World.there_setCells (there24 hL5 rfl) BL 0 _⟩
            have hO6 : ∀ b, b ≠ BL → (v5.setCells BL 0 (encB (preB W (W * H) cells))).heap[b]? = v5.heap[b]? := fun b hb => heap_setCells hb _ 0 v5
            have hS6 := range_heap hS5 (hO6 GG (by omega))
            have hE6 := (hO6 w.heap.size (by omega)).trans hE5
            have hP6 := (hO6 PP (by omega)).trans hP5
            have hD6 := (hO6 DD (by omega)).trans hD5
            have hB6 : Below w.heap.size w (v5.setCells BL 0 (encB (preB W (W * H) cells))) := below_setCells _ 0 hB5 (by omega)
            refine hK.out _ _ hS6 (fun _ => ?_)
            clear hK K hO6 hS5 hE5 hP5 hL5 hD5 hB5
            generalize v5.setCells BL 0 (encB (preB W (W * H) cells)) = v6 at *
            have hzD := cell_of_block hD6 0
            have hzg := frozen_of_block hD6 0
            simp at hzD
            refine wpAnyH_ready (rs := [13]) (by kernel_rfl) (by simp) ?_
            refine AllReadyH.cons rfl (fun K hK => ?_) AllReadyH.nil
            go_simp
            have hO7 : ∀ b, b ≠ DD → (v6.setCell ⟨DD, 0, none⟩ (.int .i64 s)).heap[b]? = v6.heap[b]? := fun b hb => away_setC hb
            refine hK.out _ _ (range_heap hS6 (hO7 GG (by omega))) (fun _ => ?_)
            clear hK K
            refine wpAnyH_done (by kernel_rfl) ?_ _
            refine ⟨.pointer (some ⟨GG, 0, none⟩), .int .i64 W, .pointer (some ⟨GG, 1, none⟩), .int .i64 H, .agg #[.int .i64 W, .int .i64 H, .slice none 0 0], .agg #[.int .i64 W, .int .i64 H, .slice a1 cells.length c1, .bool false], .agg (encB (preB W (W * H) cells)).toArray, .int .i64 s, PP, BL, DD, ?_, hd1.1, hd1.2.1, hd1.2.2, by omega, by omega, by omega, (hO7 PP (by omega)).trans hP6, hL6.heap (hO7 BL (by omega)), block_set hD6 0 _, (hO7 w.heap.size (by omega)).trans hE6, hB6.trans ((Below.set 0 _).mono (by omega))⟩
            first | rfl | (simp only [Act.put, List.setIfInBounds_toArray, List.set_cons_zero, List.set_cons_succ]; rfl)
      · go_simp
        have hbk : Below v1.heap.size v1 (v1.alloc (.cells #[.int .u8 0, .int .u8 0, .int .u8 0, .int .u8 0, .int .u8 0, .int .u8 0, .int .u8 0, .int .u8 0, .int .u8 0, .int .u8 0, .int .u8 0, .int .u8 0, .int .u8 0, .int .u8 0, .int .u8 0, .int .u8 0, .int .u8 0, .int .u8 0, .int .u8 0, .int .u8 0, .int .u8 0, .int .u8 0, .int .u8 0, .int .u8 0] 65)) := (Below.refl _ _).alloc (Nat.le_refl _) _
        have hS2 := range_later hS1 hbk
        have hE2 := (hbk.block _ (block_lt hE1)).trans hE1
        have hA2 := hA1.later rfl hbk
        have hB2 := hB1.trans (hbk.mono hB1.size)
        have hG2 := Nat.lt_of_lt_of_le hG1 hbk.size
        have hL2 : (v1.alloc (.cells #[.int .u8 0, .int .u8 0, .int .u8 0, .int .u8 0, .int .u8 0, .int .u8 0, .int .u8 0, .int .u8 0, .int .u8 0, .int .u8 0, .int .u8 0, .int .u8 0, .int .u8 0, .int .u8 0, .int .u8 0, .int .u8 0, .int .u8 0, .int .u8 0, .int .u8 0, .int .u8 0, .int .u8 0, .int .u8 0, .int .u8 0, .int .u8 0] 65)).heap[v1.heap.size]? = some (.cells zer 65 (0, 0)) := heap_alloc_new v1 (.cells #[.int .u8 0, .int .u8 0, .int .u8 0, .int .u8 0, .int .u8 0, .int .u8 0, .int .u8 0, .int .u8 0, .int .u8 0, .int .u8 0, .int .u8 0, .int .u8 0, .int .u8 0, .int .u8 0, .int .u8 0, .int .u8 0, .int .u8 0, .int .u8 0, .int .u8 0, .int .u8 0, .int .u8 0, .int .u8 0, .int .u8 0, .int .u8 0] 65)
        have hgL : GG < v1.heap.size := hG1
        refine hK.out _ _ hS2 (fun _ => ?_)
        clear hK K
        clear hbk hS1 hE1 hA1 hB1 hG1
        generalize v1.alloc (.cells #[.int .u8 0, .int .u8 0, .int .u8 0, .int .u8 0, .int .u8 0, .int .u8 0, .int .u8 0, .int .u8 0, .int .u8 0, .int .u8 0, .int .u8 0, .int .u8 0, .int .u8 0, .int .u8 0, .int .u8 0, .int .u8 0, .int .u8 0, .int .u8 0, .int .u8 0, .int .u8 0, .int .u8 0, .int .u8 0, .int .u8 0, .int .u8 0] 65) = v2 at *
        generalize v1.heap.size = BL at *
        refine wpAnyH_ready (rs := [8, 10]) (by kernel_rfl) (by simp) ?_
        refine AllReadyH.cons rfl (fun K hK => ?_) (AllReadyH.cons rfl (fun K hK => ?_) AllReadyH.nil)
        · go_simp
          have hbk : Below v2.heap.size v2 (v2.alloc (.cells #[.int .i64 0, .int .i64 0, .slice none 0 0] 31)) := (Below.refl _ _).alloc (Nat.le_refl _) _
          have hS3 := range_later hS2 hbk
          have hE3 := (hbk.block _ (block_lt hE2)).trans hE2
          have hA3 := hA2.later rfl hbk
          have hB3 := hB2.trans (hbk.mono hB2.size)
          have hG3 := Nat.lt_of_lt_of_le hG2 hbk.size
          have hL3 := (hbk.block _ (block_lt hL2)).trans hL2
          have hP3 : (v2.alloc (.cells #[.int .i64 0, .int .i64 0, .slice none 0 0] 31)).heap[v2.heap.size]? = some (.cells #[.int .i64 0, .int .i64 0, .slice none 0 0] 31 (0, 0)) := heap_alloc_new v2 (.cells #[.int .i64 0, .int .i64 0, .slice none 0 0] 31)
          have hgP : GG < v2.heap.size := hG2
          have hlLP : BL < v2.heap.size := block_lt hL2
          refine hK.out _ _ hS3 (fun _ => ?_)
          clear hK K
          clear hbk hS2 hE2 hA2 hB2 hG2 hL2
          generalize v2.alloc (.cells #[.int .i64 0, .int .i64 0, .slice none 0 0] 31) = v3 at *
          generalize v2.heap.size = PP at *
          refine wpAnyH_ready (rs := [10]) (by kernel_rfl) (by simp) ?_
          refine AllReadyH.cons rfl (fun K hK => ?_) AllReadyH.nil
          · go_simp
            have hbk : Below v3.heap.size v3 (v3.alloc (.cells #[.int .i64 0] 71)) := (Below.refl _ _).alloc (Nat.le_refl _) _
            have hS4 := range_later hS3 hbk
            have hE4 := (hbk.block _ (block_lt hE3)).trans hE3
            have hA4 := hA3.later rfl hbk
            have hB4 := hB3.trans (hbk.mono hB3.size)
            have hG4 := Nat.lt_of_lt_of_le hG3 hbk.size
            have hL4 := (hbk.block _ (block_lt hL3)).trans hL3
            have hP4 := (hbk.block _ (block_lt hP3)).trans hP3
            have hD4 : (v3.alloc (.cells #[.int .i64 0] 71)).heap[v3.heap.size]? = some (.cells #[.int .i64 0] 71 (0, 0)) := heap_alloc_new v3 (.cells #[.int .i64 0] 71)
            have hgD : GG < v3.heap.size := hG3
            have hlLD : BL < v3.heap.size := block_lt hL3
            have hlPD : PP < v3.heap.size := block_lt hP3
            refine hK.out _ _ hS4 (fun _ => ?_)
            clear hK K
            clear hbk hS3 hE3 hA3 hB3 hG3 hL3 hP3
            generalize v3.alloc (.cells #[.int .i64 0] 71) = v4 at *
            generalize v3.heap.size = DD at *
            have hd1 : PP ≠ BL ∧ PP ≠ DD ∧ BL ≠ DD := by omega
            have hzP0 := cell_of_block hP4 0
            have hzP1 := cell_of_block hP4 1
            have hzP2 := cell_of_block hP4 2
            have hzf := frozen_of_block hP4
            simp at hzP0 hzP1 hzP2
            obtain ⟨hP5, hb5⟩ := puzzle_stored (B := w.heap.size) hP4 (by omega) (.int .i64 W) (.int .i64 H) (.slice none 0 0)
            have hO5 : ∀ b, b ≠ PP → (((v4.setCell ⟨PP, 0, none⟩ (.int .i64 W)).setCell ⟨PP, 1, none⟩ (.int .i64 H)).setCell ⟨PP, 2, none⟩ (.slice none 0 0)).heap[b]? = v4.heap[b]? := fun b hb => (away_setC hb).trans ((away_setC hb).trans (away_setC hb))
            have hS5 := range_heap hS4 (hO5 GG (by omega))
            have hE5 := (hO5 w.heap.size (by omega)).trans hE4
            have hL5 := (hO5 BL (by omega)).trans hL4
            have hD5 := (hO5 DD (by omega)).trans hD4
            have hB5 := hB4.trans hb5
            refine wpAnyH_ready (rs := [11]) (by kernel_rfl) (by simp) ?_
            refine AllReadyH.cons rfl (fun K hK => ?_) AllReadyH.nil
            go_simp
            refine hK.out _ _ hS5 (fun _ => ?_)
            clear hK K
            clear hO5 hb5 hS4 hE4 hA4 hB4 hG4 hP4 hL4 hD4 hzP0 hzP1 hzP2 hzf
            generalize ((v4.setCell ⟨PP, 0, none⟩ (.int .i64 W)).setCell ⟨PP, 1, none⟩ (.int .i64 H)).setCell ⟨PP, 2, none⟩ (.slice none 0 0) = v5 at *
            refine wpAnyH_ready (rs := [12]) (by kernel_rfl) (by simp) ?_
            refine AllReadyH.cons rfl (fun K hK => ?_) AllReadyH.nil
            rw [if_pos (by rfl)]
            refine wp_store_mid 65 _ _ rfl BL 0 (encB (preB W (W * H) cells)).toArray rfl rfl (by rw [encB_size]; exact there24 hL5 rfl) (inf67.trans (by rw [encB_size])) (all_oneCell_toArray (encB_one _)) ?_
            have hL6 : BoxB (v5.setCells BL 0 (encB (preB W (W * H) cells))) BL (preB W (W * H) cells) := ⟨World.rangeAt_setCells_same _ _ 0 _ (by rw [encB_len]; exact there24 hL5 rfl), World.there_setCells (there24 hL5 rfl) BL 0 _⟩
            have hO6 : ∀ b, b ≠ BL → (v5.setCells BL 0 (encB (preB W (W * H) cells))).heap[b]? = v5.heap[b]? := fun b hb => heap_setCells hb _ 0 v5
            have hS6 := range_heap hS5 (hO6 GG (by omega))
            have hE6 := (hO6 w.heap.size (by omega)).trans hE5
            have hP6 := (hO6 PP (by omega)).trans hP5
            have hD6 := (hO6 DD (by omega)).trans hD5
            have hB6 : Below w.heap.size w (v5.setCells BL 0 (encB (preB W (W * H) cells))) := below_setCells _ 0 hB5 (by omega)
            refine hK.out _ _ hS6 (fun _ => ?_)
            clear hK K hO6 hS5 hE5 hP5 hL5 hD5 hB5
            generalize v5.setCells BL 0 (encB (preB W (W * H) cells)) = v6 at *
            have hzD := cell_of_block hD6 0
            have hzg := frozen_of_block hD6 0
            simp at hzD
            refine wpAnyH_ready (rs := [13]) (by kernel_rfl) (by simp) ?_
            refine AllReadyH.cons rfl (fun K hK => ?_) AllReadyH.nil
            go_simp
            have hO7 : ∀ b, b ≠ DD → (v6.setCell ⟨DD, 0, none⟩ (.int .i64 s)).heap[b]? = v6.heap[b]? := fun b hb => away_setC hb
            refine hK.out _ _ (range_heap hS6 (hO7 GG (by omega))) (fun _ => ?_)
            clear hK K
            refine wpAnyH_done (by kernel_rfl) ?_ _
            refine ⟨.pointer (some ⟨GG, 0, none⟩), .int .i64 W, .pointer (some ⟨GG, 1, none⟩), .int .i64 H, .agg #[.int .i64 W, .int .i64 H, .slice none 0 0], .agg #[.int .i64 W, .int .i64 H, .slice a1 cells.length c1, .bool false], .agg (encB (preB W (W * H) cells)).toArray, .int .i64 s, PP, BL, DD, ?_, hd1.1, hd1.2.1, hd1.2.2, by omega, by omega, by omega, (hO7 PP (by omega)).trans hP6, hL6.heap (hO7 BL (by omega)), block_set hD6 0 _, (hO7 w.heap.size (by omega)).trans hE6, hB6.trans ((Below.set 0 _).mono (by omega))⟩
            first | rfl | (simp only [Act.put, List.setIfInBounds_toArray, List.set_cons_zero, List.set_cons_succ]; rfl)
        · go_simp
          have hbk : Below v2.heap.size v2 (v2.alloc (.cells #[.int .i64 0] 71)) := (Below.refl _ _).alloc (Nat.le_refl _) _
          have hS3 := range_later hS2 hbk
          have hE3 := (hbk.block _ (block_lt hE2)).trans hE2
          have hA3 := hA2.later rfl hbk
          have hB3 := hB2.trans (hbk.mono hB2.size)
          have hG3 := Nat.lt_of_lt_of_le hG2 hbk.size
          have hL3 := (hbk.block _ (block_lt hL2)).trans hL2
          have hD3 : (v2.alloc (.cells #[.int .i64 0] 71)).heap[v2.heap.size]? = some (.cells #[.int .i64 0] 71 (0, 0)) := heap_alloc_new v2 (.cells #[.int .i64 0] 71)
          have hgD : GG < v2.heap.size := hG2
          have hlLD : BL < v2.heap.size := block_lt hL2
          refine hK.out _ _ hS3 (fun _ => ?_)
          clear hK K
          clear hbk hS2 hE2 hA2 hB2 hG2 hL2
          generalize v2.alloc (.cells #[.int .i64 0] 71) = v3 at *
          generalize v2.heap.size = DD at *
          refine wpAnyH_ready (rs := [8]) (by kernel_rfl) (by simp) ?_
          refine AllReadyH.cons rfl (fun K hK => ?_) AllReadyH.nil
          · go_simp
            have hbk : Below v3.heap.size v3 (v3.alloc (.cells #[.int .i64 0, .int .i64 0, .slice none 0 0] 31)) := (Below.refl _ _).alloc (Nat.le_refl _) _
            have hS4 := range_later hS3 hbk
            have hE4 := (hbk.block _ (block_lt hE3)).trans hE3
            have hA4 := hA3.later rfl hbk
            have hB4 := hB3.trans (hbk.mono hB3.size)
            have hG4 := Nat.lt_of_lt_of_le hG3 hbk.size
            have hL4 := (hbk.block _ (block_lt hL3)).trans hL3
            have hD4 := (hbk.block _ (block_lt hD3)).trans hD3
            have hP4 : (v3.alloc (.cells #[.int .i64 0, .int .i64 0, .slice none 0 0] 31)).heap[v3.heap.size]? = some (.cells #[.int .i64 0, .int .i64 0, .slice none 0 0] 31 (0, 0)) := heap_alloc_new v3 (.cells #[.int .i64 0, .int .i64 0, .slice none 0 0] 31)
            have hgP : GG < v3.heap.size := hG3
            have hlLP : BL < v3.heap.size := block_lt hL3
            have hlDP : DD < v3.heap.size := block_lt hD3
            refine hK.out _ _ hS4 (fun _ => ?_)
            clear hK K
            clear hbk hS3 hE3 hA3 hB3 hG3 hL3 hD3
            generalize v3.alloc (.cells #[.int .i64 0, .int .i64 0, .slice none 0 0] 31) = v4 at *
            generalize v3.heap.size = PP at *
            have hd1 : PP ≠ BL ∧ PP ≠ DD ∧ BL ≠ DD := by omega
            have hzP0 := cell_of_block hP4 0
            have hzP1 := cell_of_block hP4 1
            have hzP2 := cell_of_block hP4 2
            have hzf := frozen_of_block hP4
            simp at hzP0 hzP1 hzP2
            obtain ⟨hP5, hb5⟩ := puzzle_stored (B := w.heap.size) hP4 (by omega) (.int .i64 W) (.int .i64 H) (.slice none 0 0)
            have hO5 : ∀ b, b ≠ PP → (((v4.setCell ⟨PP, 0, none⟩ (.int .i64 W)).setCell ⟨PP, 1, none⟩ (.int .i64 H)).setCell ⟨PP, 2, none⟩ (.slice none 0 0)).heap[b]? = v4.heap[b]? := fun b hb => (away_setC hb).trans ((away_setC hb).trans (away_setC hb))
            have hS5 := range_heap hS4 (hO5 GG (by omega))
            have hE5 := (hO5 w.heap.size (by omega)).trans hE4
            have hL5 := (hO5 BL (by omega)).trans hL4
            have hD5 := (hO5 DD (by omega)).trans hD4
            have hB5 := hB4.trans hb5
            refine wpAnyH_ready (rs := [11]) (by kernel_rfl) (by simp) ?_
            refine AllReadyH.cons rfl (fun K hK => ?_) AllReadyH.nil
            go_simp
            refine hK.out _ _ hS5 (fun _ => ?_)
            clear hK K
            clear hO5 hb5 hS4 hE4 hA4 hB4 hG4 hP4 hL4 hD4 hzP0 hzP1 hzP2 hzf
            generalize ((v4.setCell ⟨PP, 0, none⟩ (.int .i64 W)).setCell ⟨PP, 1, none⟩ (.int .i64 H)).setCell ⟨PP, 2, none⟩ (.slice none 0 0) = v5 at *
            refine wpAnyH_ready (rs := [12]) (by kernel_rfl) (by simp) ?_
            refine AllReadyH.cons rfl (fun K hK => ?_) AllReadyH.nil
            rw [if_pos (by rfl)]
            refine wp_store_mid 65 _ _ rfl BL 0 (encB (preB W (W * H) cells)).toArray rfl rfl (by rw [encB_size]; exact there24 hL5 rfl) (inf67.trans (by rw [encB_size])) (all_oneCell_toArray (encB_one _)) ?_
            have hL6 : BoxB (v5.setCells BL 0 (encB (preB W (W * H) cells))) BL (preB W (W * H) cells) := ⟨World.rangeAt_setCells_same _ _ 0 _ (by rw [encB_len]; exact there24 hL5 rfl), World.there_setCells (there24 hL5 rfl) BL 0 _⟩
            have hO6 : ∀ b, b ≠ BL → (v5.setCells BL 0 (encB (preB W (W * H) cells))).heap[b]? = v5.heap[b]? := fun b hb => heap_setCells hb _ 0 v5
            have hS6 := range_heap hS5 (hO6 GG (by omega))
            have hE6 := (hO6 w.heap.size (by omega)).trans hE5
            have hP6 := (hO6 PP (by omega)).trans hP5
            have hD6 := (hO6 DD (by omega)).trans hD5
            have hB6 : Below w.heap.size w (v5.setCells BL 0 (encB (preB W (W * H) cells))) := below_setCells _ 0 hB5 (by omega)
            refine hK.out _ _ hS6 (fun _ => ?_)
            clear hK K hO6 hS5 hE5 hP5 hL5 hD5 hB5
            generalize v5.setCells BL 0 (encB (preB W (W * H) cells)) = v6 at *
            have hzD := cell_of_block hD6 0
            have hzg := frozen_of_block hD6 0
            simp at hzD
            refine wpAnyH_ready (rs := [13]) (by kernel_rfl) (by simp) ?_
            refine AllReadyH.cons rfl (fun K hK => ?_) AllReadyH.nil
            go_simp
            have hO7 : ∀ b, b ≠ DD → (v6.setCell ⟨DD, 0, none⟩ (.int .i64 s)).heap[b]? = v6.heap[b]? := fun b hb => away_setC hb
            refine hK.out _ _ (range_heap hS6 (hO7 GG (by omega))) (fun _ => ?_)
            clear hK K
            refine wpAnyH_done (by kernel_rfl) ?_ _
            refine ⟨.pointer (some ⟨GG, 0, none⟩), .int .i64 W, .pointer (some ⟨GG, 1, none⟩), .int .i64 H, .agg #[.int .i64 W, .int .i64 H, .slice none 0 0], .agg #[.int .i64 W, .int .i64 H, .slice a1 cells.length c1, .bool false], .agg (encB (preB W (W * H) cells)).toArray, .int .i64 s, PP, BL, DD, ?_, hd1.1, hd1.2.1, hd1.2.2, by omega, by omega, by omega, (hO7 PP (by omega)).trans hP6, hL6.heap (hO7 BL (by omega)), block_set hD6 0 _, (hO7 w.heap.size (by omega)).trans hE6, hB6.trans ((Below.set 0 _).mono (by omega))⟩
            first | rfl | (simp only [Act.put, List.setIfInBounds_toArray, List.set_cons_zero, List.set_cons_succ]; rfl)
      · go_simp
        have hbk : Below v1.heap.size v1 (v1.alloc (.cells #[.int .i64 0] 71)) := (Below.refl _ _).alloc (Nat.le_refl _) _
        have hS2 := range_later hS1 hbk
        have hE2 := (hbk.block _ (block_lt hE1)).trans hE1
        have hA2 := hA1.later rfl hbk
        have hB2 := hB1.trans (hbk.mono hB1.size)
        have hG2 := Nat.lt_of_lt_of_le hG1 hbk.size
        have hD2 : (v1.alloc (.cells #[.int .i64 0] 71)).heap[v1.heap.size]? = some (.cells #[.int .i64 0] 71 (0, 0)) := heap_alloc_new v1 (.cells #[.int .i64 0] 71)
        have hgD : GG < v1.heap.size := hG1
        refine hK.out _ _ hS2 (fun _ => ?_)
        clear hK K
        clear hbk hS1 hE1 hA1 hB1 hG1
        generalize v1.alloc (.cells #[.int .i64 0] 71) = v2 at *
        generalize v1.heap.size = DD at *
        refine wpAnyH_ready (rs := [8, 9]) (by kernel_rfl) (by simp) ?_
        refine AllReadyH.cons rfl (fun K hK => ?_) (AllReadyH.cons rfl (fun K hK => ?_) AllReadyH.nil)
        · go_simp
          have hbk : Below v2.heap.size v2 (v2.alloc (.cells #[.int .i64 0, .int .i64 0, .slice none 0 0] 31)) := (Below.refl _ _).alloc (Nat.le_refl _) _
          have hS3 := range_later hS2 hbk
          have hE3 := (hbk.block _ (block_lt hE2)).trans hE2
          have hA3 := hA2.later rfl hbk
          have hB3 := hB2.trans (hbk.mono hB2.size)
          have hG3 := Nat.lt_of_lt_of_le hG2 hbk.size
          have hD3 := (hbk.block _ (block_lt hD2)).trans hD2
          have hP3 : (v2.alloc (.cells #[.int .i64 0, .int .i64 0, .slice none 0 0] 31)).heap[v2.heap.size]? = some (.cells #[.int .i64 0, .int .i64 0, .slice none 0 0] 31 (0, 0)) := heap_alloc_new v2 (.cells #[.int .i64 0, .int .i64 0, .slice none 0 0] 31)
          have hgP : GG < v2.heap.size := hG2
          have hlDP : DD < v2.heap.size := block_lt hD2
          refine hK.out _ _ hS3 (fun _ => ?_)
          clear hK K
          clear hbk hS2 hE2 hA2 hB2 hG2 hD2
          generalize v2.alloc (.cells #[.int .i64 0, .int .i64 0, .slice none 0 0] 31) = v3 at *
          generalize v2.heap.size = PP at *
          refine wpAnyH_ready (rs := [9]) (by kernel_rfl) (by simp) ?_
          refine AllReadyH.cons rfl (fun K hK => ?_) AllReadyH.nil
          · go_simp
            have hbk : Below v3.heap.size v3 (v3.alloc (.cells #[.int .u8 0, .int .u8 0, .int .u8 0, .int .u8 0, .int .u8 0, .int .u8 0, .int .u8 0, .int .u8 0, .int .u8 0, .int .u8 0, .int .u8 0, .int .u8 0, .int .u8 0, .int .u8 0, .int .u8 0, .int .u8 0, .int .u8 0, .int .u8 0, .int .u8 0, .int .u8 0, .int .u8 0, .int .u8 0, .int .u8 0, .int .u8 0] 65)) := (Below.refl _ _).alloc (Nat.le_refl _) _
            have hS4 := range_later hS3 hbk
            have hE4 := (hbk.block _ (block_lt hE3)).trans hE3
            have hA4 := hA3.later rfl hbk
            have hB4 := hB3.trans (hbk.mono hB3.size)
            have hG4 := Nat.lt_of_lt_of_le hG3 hbk.size
            have hD4 := (hbk.block _ (block_lt hD3)).trans hD3
            have hP4 := (hbk.block _ (block_lt hP3)).trans hP3
            have hL4 : (v3.alloc (.cells #[.int .u8 0, .int .u8 0, .int .u8 0, .int .u8 0, .int .u8 0, .int .u8 0, .int .u8 0, .int .u8 0, .int .u8 0, .int .u8 0, .int .u8 0, .int .u8 0, .int .u8 0, .int .u8 0, .int .u8 0, .int .u8 0, .int .u8 0, .int .u8 0, .int .u8 0, .int .u8 0, .int .u8 0, .int .u8 0, .int .u8 0, .int .u8 0] 65)).heap[v3.heap.size]? = some (.cells zer 65 (0, 0)) := heap_alloc_new v3 (.cells #[.int .u8 0, .int .u8 0, .int .u8 0, .int .u8 0, .int .u8 0, .int .u8 0, .int .u8 0, .int .u8 0, .int .u8 0, .int .u8 0, .int .u8 0, .int .u8 0, .int .u8 0, .int .u8 0, .int .u8 0, .int .u8 0, .int .u8 0, .int .u8 0, .int .u8 0, .int .u8 0, .int .u8 0, .int .u8 0, .int .u8 0, .int .u8 0] 65)
            have hgL : GG < v3.heap.size := hG3
            have hlDL : DD < v3.heap.size := block_lt hD3
            have hlPL : PP < v3.heap.size := block_lt hP3
            refine hK.out _ _ hS4 (fun _ => ?_)
            clear hK K
            clear hbk hS3 hE3 hA3 hB3 hG3 hD3 hP3
            generalize v3.alloc (.cells #[.int .u8 0, .int .u8 0, .int .u8 0, .int .u8 0, .int .u8 0, .int .u8 0, .int .u8 0, .int .u8 0, .int .u8 0, .int .u8 0, .int .u8 0, .int .u8 0, .int .u8 0, .int .u8 0, .int .u8 0, .int .u8 0, .int .u8 0, .int .u8 0, .int .u8 0, .int .u8 0, .int .u8 0, .int .u8 0, .int .u8 0, .int .u8 0] 65) = v4 at *
            generalize v3.heap.size = BL at *
            have hd1 : PP ≠ BL ∧ PP ≠ DD ∧ BL ≠ DD := by omega
            have hzP0 := cell_of_block hP4 0
            have hzP1 := cell_of_block hP4 1
            have hzP2 := cell_of_block hP4 2
            have hzf := frozen_of_block hP4
            simp at hzP0 hzP1 hzP2
            obtain ⟨hP5, hb5⟩ := puzzle_stored (B := w.heap.size) hP4 (by omega) (.int .i64 W) (.int .i64 H) (.slice none 0 0)
            have hO5 : ∀ b, b ≠ PP → (((v4.setCell ⟨PP, 0, none⟩ (.int .i64 W)).setCell ⟨PP, 1, none⟩ (.int .i64 H)).setCell ⟨PP, 2, none⟩ (.slice none 0 0)).heap[b]? = v4.heap[b]? := fun b hb => (away_setC hb).trans ((away_setC hb).trans (away_setC hb))
            have hS5 := range_heap hS4 (hO5 GG (by omega))
            have hE5 := (hO5 w.heap.size (by omega)).trans hE4
            have hL5 := (hO5 BL (by omega)).trans hL4
            have hD5 := (hO5 DD (by omega)).trans hD4
            have hB5 := hB4.trans hb5
            refine wpAnyH_ready (rs := [11]) (by kernel_rfl) (by simp) ?_
            refine AllReadyH.cons rfl (fun K hK => ?_) AllReadyH.nil
            go_simp
            refine hK.out _ _ hS5 (fun _ => ?_)
            clear hK K
            clear hO5 hb5 hS4 hE4 hA4 hB4 hG4 hP4 hL4 hD4 hzP0 hzP1 hzP2 hzf
            generalize ((v4.setCell ⟨PP, 0, none⟩ (.int .i64 W)).setCell ⟨PP, 1, none⟩ (.int .i64 H)).setCell ⟨PP, 2, none⟩ (.slice none 0 0) = v5 at *
            refine wpAnyH_ready (rs := [12]) (by kernel_rfl) (by simp) ?_
            refine AllReadyH.cons rfl (fun K hK => ?_) AllReadyH.nil
            rw [if_pos (by rfl)]
            refine wp_store_mid 65 _ _ rfl BL 0 (encB (preB W (W * H) cells)).toArray rfl rfl (by rw [encB_size]; exact there24 hL5 rfl) (inf67.trans (by rw [encB_size])) (all_oneCell_toArray (encB_one _)) ?_
            have hL6 : BoxB (v5.setCells BL 0 (encB (preB W (W * H) cells))) BL (preB W (W * H) cells) := ⟨World.rangeAt_setCells_same _ _ 0 _ (by rw [encB_len]; exact there24 hL5 rfl), World.there_setCells (there24 hL5 rfl) BL 0 _⟩
            have hO6 : ∀ b, b ≠ BL → (v5.setCells BL 0 (encB (preB W (W * H) cells))).heap[b]? = v5.heap[b]? := fun b hb => heap_setCells hb _ 0 v5
            have hS6 := range_heap hS5 (hO6 GG (by omega))
            have hE6 := (hO6 w.heap.size (by omega)).trans hE5
            have hP6 := (hO6 PP (by omega)).trans hP5
            have hD6 := (hO6 DD (by omega)).trans hD5
            have hB6 : Below w.heap.size w (v5.setCells BL 0 (encB (preB W (W * H) cells))) := below_setCells _ 0 hB5 (by omega)
            refine hK.out _ _ hS6 (fun _ => ?_)
            clear hK K hO6 hS5 hE5 hP5 hL5 hD5 hB5
            generalize v5.setCells BL 0 (encB (preB W (W * H) cells)) = v6 at *
            have hzD := cell_of_block hD6 0
            have hzg := frozen_of_block hD6 0
            simp at hzD
            refine wpAnyH_ready (rs := [13]) (by kernel_rfl) (by simp) ?_
            refine AllReadyH.cons rfl (fun K hK => ?_) AllReadyH.nil
            go_simp
            have hO7 : ∀ b, b ≠ DD → (v6.setCell ⟨DD, 0, none⟩ (.int .i64 s)).heap[b]? = v6.heap[b]? := fun b hb => away_setC hb
            refine hK.out _ _ (range_heap hS6 (hO7 GG (by omega))) (fun _ => ?_)
            clear hK K
            refine wpAnyH_done (by kernel_rfl) ?_ _
            refine ⟨.pointer (some ⟨GG, 0, none⟩), .int .i64 W, .pointer (some ⟨GG, 1, none⟩), .int .i64 H, .agg #[.int .i64 W, .int .i64 H, .slice none 0 0], .agg #[.int .i64 W, .int .i64 H, .slice a1 cells.length c1, .bool false], .agg (encB (preB W (W * H) cells)).toArray, .int .i64 s, PP, BL, DD, ?_, hd1.1, hd1.2.1, hd1.2.2, by omega, by omega, by omega, (hO7 PP (by omega)).trans hP6, hL6.heap (hO7 BL (by omega)), block_set hD6 0 _, (hO7 w.heap.size (by omega)).trans hE6, hB6.trans ((Below.set 0 _).mono (by omega))⟩
            first | rfl | (simp only [Act.put, List.setIfInBounds_toArray, List.set_cons_zero, List.set_cons_succ]; rfl)
        · go_simp
          have hbk : Below v2.heap.size v2 (v2.alloc (.cells #[.int .u8 0, .int .u8 0, .int .u8 0, .int .u8 0, .int .u8 0, .int .u8 0, .int .u8 0, .int .u8 0, .int .u8 0, .int .u8 0, .int .u8 0, .int .u8 0, .int .u8 0, .int .u8 0, .int .u8 0, .int .u8 0, .int .u8 0, .int .u8 0, .int .u8 0, .int .u8 0, .int .u8 0, .int .u8 0, .int .u8 0, .int .u8 0] 65)) := (Below.refl _ _).alloc (Nat.le_refl _) _
          have hS3 := range_later hS2 hbk
          have hE3 := (hbk.block _ (block_lt hE2)).trans hE2
          have hA3 := hA2.later rfl hbk
          have hB3 := hB2.trans (hbk.mono hB2.size)
          have hG3 := Nat.lt_of_lt_of_le hG2 hbk.size
          have hD3 := (hbk.block _ (block_lt hD2)).trans hD2
          have hL3 : (v2.alloc (.cells #[.int .u8 0, .int .u8 0, .int .u8 0, .int .u8 0, .int .u8 0, .int .u8 0, .int .u8 0, .int .u8 0, .int .u8 0, .int .u8 0, .int .u8 0, .int .u8 0, .int .u8 0, .int .u8 0, .int .u8 0, .int .u8 0, .int .u8 0, .int .u8 0, .int .u8 0, .int .u8 0, .int .u8 0, .int .u8 0, .int .u8 0, .int .u8 0] 65)).heap[v2.heap.size]? = some (.cells zer 65 (0, 0)) := heap_alloc_new v2 (.cells #[.int .u8 0, .int .u8 0, .int .u8 0, .int .u8 0, .int .u8 0, .int .u8 0, .int .u8 0, .int .u8 0, .int .u8 0, .int .u8 0, .int .u8 0, .int .u8 0, .int .u8 0, .int .u8 0, .int .u8 0, .int .u8 0, .int .u8 0, .int .u8 0, .int .u8 0, .int .u8 0, .int .u8 0, .int .u8 0, .int .u8 0, .int .u8 0] 65)
          have hgL : GG < v2.heap.size := hG2
          have hlDL : DD < v2.heap.size := block_lt hD2
          refine hK.out _ _ hS3 (fun _ => ?_)
          clear hK K
          clear hbk hS2 hE2 hA2 hB2 hG2 hD2
          generalize v2.alloc (.cells #[.int .u8 0, .int .u8 0, .int .u8 0, .int .u8 0, .int .u8 0, .int .u8 0, .int .u8 0, .int .u8 0, .int .u8 0, .int .u8 0, .int .u8 0, .int .u8 0, .int .u8 0, .int .u8 0, .int .u8 0, .int .u8 0, .int .u8 0, .int .u8 0, .int .u8 0, .int .u8 0, .int .u8 0, .int .u8 0, .int .u8 0, .int .u8 0] 65) = v3 at *
          generalize v2.heap.size = BL at *
          refine wpAnyH_ready (rs := [8]) (by kernel_rfl) (by simp) ?_
          refine AllReadyH.cons rfl (fun K hK => ?_) AllReadyH.nil
          · go_simp
            have hbk : Below v3.heap.size v3 (v3.alloc (.cells #[.int .i64 0, .int .i64 0, .slice none 0 0] 31)) := (Below.refl _ _).alloc (Nat.le_refl _) _
            have hS4 := range_later hS3 hbk
            have hE4 := (hbk.block _ (block_lt hE3)).trans hE3
            have hA4 := hA3.later rfl hbk
            have hB4 := hB3.trans (hbk.mono hB3.size)
            have hG4 := Nat.lt_of_lt_of_le hG3 hbk.size
            have hD4 := (hbk.block _ (block_lt hD3)).trans hD3
            have hL4 := (hbk.block _ (block_lt hL3)).trans hL3
            have hP4 : (v3.alloc (.cells #[.int .i64 0, .int .i64 0, .slice none 0 0] 31)).heap[v3.heap.size]? = some (.cells #[.int .i64 0, .int .i64 0, .slice none 0 0] 31 (0, 0)) := heap_alloc_new v3 (.cells #[.int .i64 0, .int .i64 0, .slice none 0 0] 31)
            have hgP : GG < v3.heap.size := hG3
            have hlDP : DD < v3.heap.size := block_lt hD3
            have hlLP : BL < v3.heap.size := block_lt hL3
            refine hK.out _ _ hS4 (fun _ => ?_)
            clear hK K
            clear hbk hS3 hE3 hA3 hB3 hG3 hD3 hL3
            generalize v3.alloc (.cells #[.int .i64 0, .int .i64 0, .slice none 0 0] 31) = v4 at *
            generalize v3.heap.size = PP at *
            have hd1 : PP ≠ BL ∧ PP ≠ DD ∧ BL ≠ DD := by omega
            have hzP0 := cell_of_block hP4 0
            have hzP1 := cell_of_block hP4 1
            have hzP2 := cell_of_block hP4 2
            have hzf := frozen_of_block hP4
            simp at hzP0 hzP1 hzP2
            obtain ⟨hP5, hb5⟩ := puzzle_stored (B := w.heap.size) hP4 (by omega) (.int .i64 W) (.int .i64 H) (.slice none 0 0)
            have hO5 : ∀ b, b ≠ PP → (((v4.setCell ⟨PP, 0, none⟩ (.int .i64 W)).setCell ⟨PP, 1, none⟩ (.int .i64 H)).setCell ⟨PP, 2, none⟩ (.slice none 0 0)).heap[b]? = v4.heap[b]? := fun b hb => (away_setC hb).trans ((away_setC hb).trans (away_setC hb))
            have hS5 := range_heap hS4 (hO5 GG (by omega))
            have hE5 := (hO5 w.heap.size (by omega)).trans hE4
            have hL5 := (hO5 BL (by omega)).trans hL4
            have hD5 := (hO5 DD (by omega)).trans hD4
            have hB5 := hB4.trans hb5
            refine wpAnyH_ready (rs := [11]) (by kernel_rfl) (by simp) ?_
            refine AllReadyH.cons rfl (fun K hK => ?_) AllReadyH.nil
            go_simp
            refine hK.out _ _ hS5 (fun _ => ?_)
            clear hK K
            clear hO5 hb5 hS4 hE4 hA4 hB4 hG4 hP4 hL4 hD4 hzP0 hzP1 hzP2 hzf
            generalize ((v4.setCell ⟨PP, 0, none⟩ (.int .i64 W)).setCell ⟨PP, 1, none⟩ (.int .i64 H)).setCell ⟨PP, 2, none⟩ (.slice none 0 0) = v5 at *
            refine wpAnyH_ready (rs := [12]) (by kernel_rfl) (by simp) ?_
            refine AllReadyH.cons rfl (fun K hK => ?_) AllReadyH.nil
            rw [if_pos (by rfl)]
            refine wp_store_mid 65 _ _ rfl BL 0 (encB (preB W (W * H) cells)).toArray rfl rfl (by rw [encB_size]; exact there24 hL5 rfl) (inf67.trans (by rw [encB_size])) (all_oneCell_toArray (encB_one _)) ?_
            have hL6 : BoxB (v5.setCells BL 0 (encB (preB W (W * H) cells))) BL (preB W (W * H) cells) := ⟨World.rangeAt_setCells_same _ _ 0 _ (by rw [encB_len]; exact there24 hL5 rfl), World.there_setCells (there24 hL5 rfl) BL 0 _⟩
            have hO6 : ∀ b, b ≠ BL → (v5.setCells BL 0 (encB (preB W (W * H) cells))).heap[b]? = v5.heap[b]? := fun b hb => heap_setCells hb _ 0 v5
            have hS6 := range_heap hS5 (hO6 GG (by omega))
            have hE6 := (hO6 w.heap.size (by omega)).trans hE5
            have hP6 := (hO6 PP (by omega)).trans hP5
            have hD6 := (hO6 DD (by omega)).trans hD5
            have hB6 : Below w.heap.size w (v5.setCells BL 0 (encB (preB W (W * H) cells))) := below_setCells _ 0 hB5 (by omega)
            refine hK.out _ _ hS6 (fun _ => ?_)
            clear hK K hO6 hS5 hE5 hP5 hL5 hD5 hB5
            generalize v5.setCells BL 0 (encB (preB W (W * H) cells)) = v6 at *
            have hzD := cell_of_block hD6 0
            have hzg := frozen_of_block hD6 0
            simp at hzD
            refine wpAnyH_ready (rs := [13]) (by kernel_rfl) (by simp) ?_
            refine AllReadyH.cons rfl (fun K hK => ?_) AllReadyH.nil
            go_simp
            have hO7 : ∀ b, b ≠ DD → (v6.setCell ⟨DD, 0, none⟩ (.int .i64 s)).heap[b]? = v6.heap[b]? := fun b hb => away_setC hb
            refine hK.out _ _ (range_heap hS6 (hO7 GG (by omega))) (fun _ => ?_)
            clear hK K
            refine wpAnyH_done (by kernel_rfl) ?_ _
            refine ⟨.pointer (some ⟨GG, 0, none⟩), .int .i64 W, .pointer (some ⟨GG, 1, none⟩), .int .i64 H, .agg #[.int .i64 W, .int .i64 H, .slice none 0 0], .agg #[.int .i64 W, .int .i64 H, .slice a1 cells.length c1, .bool false], .agg (encB (preB W (W * H) cells)).toArray, .int .i64 s, PP, BL, DD, ?_, hd1.1, hd1.2.1, hd1.2.2, by omega, by omega, by omega, (hO7 PP (by omega)).trans hP6, hL6.heap (hO7 BL (by omega)), block_set hD6 0 _, (hO7 w.heap.size (by omega)).trans hE6, hB6.trans ((Below.set 0 _).mono (by omega))⟩
            first | rfl | (simp only [Act.put, List.setIfInBounds_toArray, List.set_cons_zero, List.set_cons_succ]; rfl)
    · go_simp
      have hbk : Below v0.heap.size v0 (v0.alloc (.cells #[.int .i64 0, .int .i64 0, .slice none 0 0] 31)) := (Below.refl _ _).alloc (Nat.le_refl _) _
      have hS1 := range_later hSd hbk
      have hE1 := (hbk.block _ (block_lt hEd)).trans hEd
      have hA1 := hAd.later rfl hbk
      have hB1 := hBd.trans (hbk.mono hBd.size)
      have hG1 := Nat.lt_of_lt_of_le hGd hbk.size
      have hP1 : (v0.alloc (.cells #[.int .i64 0, .int .i64 0, .slice none 0 0] 31)).heap[v0.heap.size]? = some (.cells #[.int .i64 0, .int .i64 0, .slice none 0 0] 31 (0, 0)) := heap_alloc_new v0 (.cells #[.int .i64 0, .int .i64 0, .slice none 0 0] 31)
      have hgP : GG < v0.heap.size := hGd
      refine hK.out _ _ hS1 (fun _ => ?_)
      clear hK K
      clear hbk hSd hEd hAd hBd hGd
      generalize v0.alloc (.cells #[.int .i64 0, .int .i64 0, .slice none 0 0] 31) = v1 at *
      generalize v0.heap.size = PP at *
      refine wpAnyH_ready (rs := [6, 9, 10]) (by kernel_rfl) (by simp) ?_
      refine AllReadyH.cons rfl (fun K hK => ?_) (AllReadyH.cons rfl (fun K hK => ?_) (AllReadyH.cons rfl (fun K hK => ?_) AllReadyH.nil))
      · go_simp
        refine (HL.out a1 c1 v1 hA1).mono ?_
        rintro e v2 ⟨rfl, hbk⟩
        have hS2 := range_later hS1 hbk
        have hE2 := (hbk.block _ (block_lt hE1)).trans hE1
        have hA2 := hA1.later rfl hbk
        have hB2 := hB1.trans (hbk.mono hB1.size)
        have hG2 := Nat.lt_of_lt_of_le hG1 hbk.size
        have hP2 := (hbk.block _ (block_lt hP1)).trans hP1
        clear hbk hS1 hE1 hA1 hB1 hG1 hP1
        go_wp2_with fail
        refine hK.out _ _ hS2 (fun _ => ?_)
        clear hK K
        refine wpAnyH_ready (rs := [9, 10]) (by kernel_rfl) (by simp) ?_
        refine AllReadyH.cons rfl (fun K hK => ?_) (AllReadyH.cons rfl (fun K hK => ?_) AllReadyH.nil)
        · go_simp
          have hbk : Below v2.heap.size v2 (v2.alloc (.cells #[.int .u8 0, .int .u8 0, .int .u8 0, .int .u8 0, .int .u8 0, .int .u8 0, .int .u8 0, .int .u8 0, .int .u8 0, .int .u8 0, .int .u8 0, .int .u8 0, .int .u8 0, .int .u8 0, .int .u8 0, .int .u8 0, .int .u8 0, .int .u8 0, .int .u8 0, .int .u8 0, .int .u8 0, .int .u8 0, .int .u8 0, .int .u8 0] 65)) := (Below.refl _ _).alloc (Nat.le_refl _) _
          have hS3 := range_later hS2 hbk
          have hE3 := (hbk.block _ (block_lt hE2)).trans hE2
          have hA3 := hA2.later rfl hbk
          have hB3 := hB2.trans (hbk.mono hB2.size)
          have hG3 := Nat.lt_of_lt_of_le hG2 hbk.size
          have hP3 := (hbk.block _ (block_lt hP2)).trans hP2
          have hL3 : (v2.alloc (.cells #[.int .u8 0, .int .u8 0, .int .u8 0, .int .u8 0, .int .u8 0, .int .u8 0, .int .u8 0, .int .u8 0, .int .u8 0, .int .u8 0, .int .u8 0, .int .u8 0, .int .u8 0, .int .u8 0, .int .u8 0, .int .u8 0, .int .u8 0, .int .u8 0, .int .u8 0, .int .u8 0, .int .u8 0, .int .u8 0, .int .u8 0, .int .u8 0] 65)).heap[v2.heap.size]? = some (.cells zer 65 (0, 0)) := heap_alloc_new v2 (.cells #[.int .u8 0, .int .u8 0, .int .u8 0, .int .u8 0, .int .u8 0, .int .u8 0, .int .u8 0, .int .u8 0, .int .u8 0, .int .u8 0, .int .u8 0, .int .u8 0, .int .u8 0, .int .u8 0, .int .u8 0, .int .u8 0, .int .u8 0, .int .u8 0, .int .u8 0, .int .u8 0, .int .u8 0, .int .u8 0, .int .u8 0, .int .u8 0] 65)
          have hgL : GG < v2.heap.size := hG2
          have hlPL : PP < v2.heap.size := block_lt hP2
          refine hK.out _ _ hS3 (fun _ => ?_)
          clear hK K
          clear hbk hS2 hE2 hA2 hB2 hG2 hP2
          generalize v2.alloc (.cells #[.int .u8 0, .int .u8 0, .int .u8 0, .int .u8 0, .int .u8 0, .int .u8 0, .int .u8 0, .int .u8 0, .int .u8 0, .int .u8 0, .int .u8 0, .int .u8 0, .int .u8 0, .int .u8 0, .int .u8 0, .int .u8 0, .int .u8 0, .int .u8 0, .int .u8 0, .int .u8 0, .int .u8 0, .int .u8 0, .int .u8 0, .int .u8 0] 65) = v3 at *
          generalize v2.heap.size = BL at *
          refine wpAnyH_ready (rs := [10]) (by kernel_rfl) (by simp) ?_
          refine AllReadyH.cons rfl (fun K hK => ?_) AllReadyH.nil
          · go_simp
            have hbk : Below v3.heap.size v3 (v3.alloc (.cells #[.int .i64 0] 71)) := (Below.refl _ _).alloc (Nat.le_refl _) _
            have hS4 := range_later hS3 hbk
            have hE4 := (hbk.block _ (block_lt hE3)).trans hE3
            have hA4 := hA3.later rfl hbk
            have hB4 := hB3.trans (hbk.mono hB3.size)
            have hG4 := Nat.lt_of_lt_of_le hG3 hbk.size
            have hP4 := (hbk.block _ (block_lt hP3)).trans hP3
            have hL4 := (hbk.block _ (block_lt hL3)).trans hL3
            have hD4 : (v3.alloc (.cells #[.int .i64 0] 71)).heap[v3.heap.size]? = some (.cells #[.int .i64 0] 71 (0, 0)) := heap_alloc_new v3 (.cells #[.int .i64 0] 71)
            have hgD : GG < v3.heap.size := hG3
            have hlPD : PP < v3.heap.size := block_lt hP3
            have hlLD : BL < v3.heap.size := block_lt hL3
            refine hK.out _ _ hS4 (fun _ => ?_)
            clear hK K
            clear hbk hS3 hE3 hA3 hB3 hG3 hP3 hL3
            generalize v3.alloc (.cells #[.int .i64 0] 71) = v4 at *
            generalize v3.heap.size = DD at *
            have hd1 : PP ≠ BL ∧ PP ≠ DD ∧ BL ≠ DD := by omega
            have hzP0 := cell_of_block hP4 0
            have hzP1 := cell_of_block hP4 1
            have hzP2 := cell_of_block hP4 2
            have hzf := frozen_of_block hP4
            simp at hzP0 hzP1 hzP2
            obtain ⟨hP5, hb5⟩ := puzzle_stored (B := w.heap.size) hP4 (by omega) (.int .i64 W) (.int .i64 H) (.slice none 0 0)
            have hO5 : ∀ b, b ≠ PP → (((v4.setCell ⟨PP, 0, none⟩ (.int .i64 W)).setCell ⟨PP, 1, none⟩ (.int .i64 H)).setCell ⟨PP, 2, none⟩ (.slice none 0 0)).heap[b]? = v4.heap[b]? := fun b hb => (away_setC hb).trans ((away_setC hb).trans (away_setC hb))
            have hS5 := range_heap hS4 (hO5 GG (by omega))
            have hE5 := (hO5 w.heap.size (by omega)).trans hE4
            have hL5 := (hO5 BL (by omega)).trans hL4
            have hD5 := (hO5 DD (by omega)).trans hD4
            have hB5 := hB4.trans hb5
            refine wpAnyH_ready (rs := [11]) (by kernel_rfl) (by simp) ?_
            refine AllReadyH.cons rfl (fun K hK => ?_) AllReadyH.nil
            go_simp
            refine hK.out _ _ hS5 (fun _ => ?_)
            clear hK K
            clear hO5 hb5 hS4 hE4 hA4 hB4 hG4 hP4 hL4 hD4 hzP0 hzP1 hzP2 hzf
            generalize ((v4.setCell ⟨PP, 0, none⟩ (.int .i64 W)).setCell ⟨PP, 1, none⟩ (.int .i64 H)).setCell ⟨PP, 2, none⟩ (.slice none 0 0) = v5 at *
            refine wpAnyH_ready (rs := [12]) (by kernel_rfl) (by simp) ?_
            refine AllReadyH.cons rfl (fun K hK => ?_) AllReadyH.nil
            rw [if_pos (by rfl)]
            refine wp_store_mid 65 _ _ rfl BL 0 (encB (preB W (W * H) cells)).toArray rfl rfl (by rw [encB_size]; exact there24 hL5 rfl) (inf67.trans (by rw [encB_size])) (all_oneCell_toArray (encB_one _)) ?_
            have hL6 : BoxB (v5.setCells BL 0 (encB (preB W (W * H) cells))) BL (preB W (W * H) cells) := ⟨World.rangeAt_setCells_same _ _ 0 _ (by rw [encB_len]; exact there24 hL5 rfl), World.there_setCells (there24 hL5 rfl) BL 0 _⟩
            have hO6 : ∀ b, b ≠ BL → (v5.setCells BL 0 (encB (preB W (W * H) cells))).heap[b]? = v5.heap[b]? := fun b hb => heap_setCells hb _ 0 v5
            have hS6 := range_heap hS5 (hO6 GG (by omega))
            have hE6 := (hO6 w.heap.size (by omega)).trans hE5
            have hP6 := (hO6 PP (by omega)).trans hP5
            have hD6 := (hO6 DD (by omega)).trans hD5
            have hB6 : Below w.heap.size w (v5.setCells BL 0 (encB (preB W (W * H) cells))) := below_setCells _ 0 hB5 (by omega)
            refine hK.out _ _ hS6 (fun _ => ?_)
            clear hK K hO6 hS5 hE5 hP5 hL5 hD5 hB5
            generalize v5.setCells BL 0 (encB (preB W (W * H) cells)) = v6 at *
            have hzD := cell_of_block hD6 0
            have hzg := frozen_of_block hD6 0
            simp at hzD
            refine wpAnyH_ready (rs := [13]) (by kernel_rfl) (by simp) ?_
            refine AllReadyH.cons rfl (fun K hK => ?_) AllReadyH.nil
            go_simp
            have hO7 : ∀ b, b ≠ DD → (v6.setCell ⟨DD, 0, none⟩ (.int .i64 s)).heap[b]? = v6.heap[b]? := fun b hb => away_setC hb
            refine hK.out _ _ (range_heap hS6 (hO7 GG (by omega))) (fun _ => ?_)
            clear hK K
            refine wpAnyH_done (by kernel_rfl) ?_ _
            refine ⟨.pointer (some ⟨GG, 0, none⟩), .int .i64 W, .pointer (some ⟨GG, 1, none⟩), .int .i64 H, .agg #[.int .i64 W, .int .i64 H, .slice none 0 0], .agg #[.int .i64 W, .int .i64 H, .slice a1 cells.length c1, .bool false], .agg (encB (preB W (W * H) cells)).toArray, .int .i64 s, PP, BL, DD, ?_, hd1.1, hd1.2.1, hd1.2.2, by omega, by omega, by omega, (hO7 PP (by omega)).trans hP6, hL6.heap (hO7 BL (by omega)), block_set hD6 0 _, (hO7 w.heap.size (by omega)).trans hE6, hB6.trans ((Below.set 0 _).mono (by omega))⟩
            first | rfl | (simp only [Act.put, List.setIfInBounds_toArray, List.set_cons_zero, List.set_cons_succ]; rfl)
        · go_simp
          have hbk : Below v2.heap.size v2 (v2.alloc (.cells #[.int .i64 0] 71)) := (Below.refl _ _).alloc (Nat.le_refl _) _
          have hS3 := range_later hS2 hbk
          have hE3 := (hbk.block _ (block_lt hE2)).trans hE2
          have hA3 := hA2.later rfl hbk
          have hB3 := hB2.trans (hbk.mono hB2.size)
          have hG3 := Nat.lt_of_lt_of_le hG2 hbk.size
          have hP3 := (hbk.block _ (block_lt hP2)).trans hP2
          have hD3 : (v2.alloc (.cells #[.int .i64 0] 71)).heap[v2.heap.size]? = some (.cells #[.int .i64 0] 71 (0, 0)) := heap_alloc_new v2 (.cells #[.int .i64 0] 71)
          have hgD : GG < v2.heap.size := hG2
          have hlPD : PP < v2.heap.size := block_lt hP2
          refine hK.out _ _ hS3 (fun _ => ?_)
          clear hK K
          clear hbk hS2 hE2 hA2 hB2 hG2 hP2
          generalize v2.alloc (.cells #[.int .i64 0] 71) = v3 at *
          generalize v2.heap.size = DD at *
          refine wpAnyH_ready (rs := [9]) (by kernel_rfl) (by simp) ?_
          refine AllReadyH.cons rfl (fun K hK => ?_) AllReadyH.nil
          · go_simp
            have hbk : Below v3.heap.size v3 (v3.alloc (.cells #[.int .u8 0, .int .u8 0, .int .u8 0, .int .u8 0, .int .u8 0, .int .u8 0, .int .u8 0, .int .u8 0, .int .u8 0, .int .u8 0, .int .u8 0, .int .u8 0, .int .u8 0, .int .u8 0, .int .u8 0, .int .u8 0, .int .u8 0, .int .u8 0, .int .u8 0, .int .u8 0, .int .u8 0, .int .u8 0, .int .u8 0, .int .u8 0] 65)) := (Below.refl _ _).alloc (Nat.le_refl _) _
            have hS4 := range_later hS3 hbk
            have hE4 := (hbk.block _ (block_lt hE3)).trans hE3
            have hA4 := hA3.later rfl hbk
            have hB4 := hB3.trans (hbk.mono hB3.size)
            have hG4 := Nat.lt_of_lt_of_le hG3 hbk.size
            have hP4 := (hbk.block _ (block_lt hP3)).trans hP3
            have hD4 := (hbk.block _ (block_lt hD3)).trans hD3
            have hL4 : (v3.alloc (.cells #[.int .u8 0, .int .u8 0, .int .u8 0, .int .u8 0, .int .u8 0, .int .u8 0, .int .u8 0, .int .u8 0, .int .u8 0, .int .u8 0, .int .u8 0, .int .u8 0, .int .u8 0, .int .u8 0, .int .u8 0, .int .u8 0, .int .u8 0, .int .u8 0, .int .u8 0, .int .u8 0, .int .u8 0, .int .u8 0, .int .u8 0, .int .u8 0] 65)).heap[v3.heap.size]? = some (.cells zer 65 (0, 0)) := heap_alloc_new v3 (.cells #[.int .u8 0, .int .u8 0, .int .u8 0, .int .u8 0, .int .u8 0, .int .u8 0, .int .u8 0, .int .u8 0, .int .u8 0, .int .u8 0, .int .u8 0, .int .u8 0, .int .u8 0, .int .u8 0, .int .u8 0, .int .u8 0, .int .u8 0, .int .u8 0, .int .u8 0, .int .u8 0, .int .u8 0, .int .u8 0, .int .u8 0, .int .u8 0] 65)
            have hgL : GG < v3.heap.size := hG3
            have hlPL : PP < v3.heap.size := block_lt hP3
            have hlDL : DD < v3.heap.size := block_lt hD3
            refine hK.out _ _ hS4 (fun _ => ?_)
            clear hK K
            clear hbk hS3 hE3 hA3 hB3 hG3 hP3 hD3
            generalize v3.alloc (.cells #[.int .u8 0, .int .u8 0, .int .u8 0, .int .u8 0, .int .u8 0, .int .u8 0, .int .u8 0, .int .u8 0, .int .u8 0, .int .u8 0, .int .u8 0, .int .u8 0, .int .u8 0, .int .u8 0, .int .u8 0, .int .u8 0, .int .u8 0, .int .u8 0, .int .u8 0, .int .u8 0, .int .u8 0, .int .u8 0, .int .u8 0, .int .u8 0] 65) = v4 at *
            generalize v3.heap.size = BL at *
            have hd1 : PP ≠ BL ∧ PP ≠ DD ∧ BL ≠ DD := by omega
            have hzP0 := cell_of_block hP4 0
            have hzP1 := cell_of_block hP4 1
            have hzP2 := cell_of_block hP4 2
            have hzf := frozen_of_block hP4
            simp at hzP0 hzP1 hzP2
            obtain ⟨hP5, hb5⟩ := puzzle_stored (B := w.heap.size) hP4 (by omega) (.int .i64 W) (.int .i64 H) (.slice none 0 0)
            have hO5 : ∀ b, b ≠ PP → (((v4.setCell ⟨PP, 0, none⟩ (.int .i64 W)).setCell ⟨PP, 1, none⟩ (.int .i64 H)).setCell ⟨PP, 2, none⟩ (.slice none 0 0)).heap[b]? = v4.heap[b]? := fun b hb => (away_setC hb).trans ((away_setC hb).trans (away_setC hb))
            have hS5 := range_heap hS4 (hO5 GG (by omega))
            have hE5 := (hO5 w.heap.size (by omega)).trans hE4
            have hL5 := (hO5 BL (by omega)).trans hL4
            have hD5 := (hO5 DD (by omega)).trans hD4
            have hB5 := hB4.trans hb5
            refine wpAnyH_ready (rs := [11]) (by kernel_rfl) (by simp) ?_
            refine AllReadyH.cons rfl (fun K hK => ?_) AllReadyH.nil
            go_simp
            refine hK.out _ _ hS5 (fun _ => ?_)
            clear hK K
            clear hO5 hb5 hS4 hE4 hA4 hB4 hG4 hP4 hL4 hD4 hzP0 hzP1 hzP2 hzf
            generalize ((v4.setCell ⟨PP, 0, none⟩ (.int .i64 W)).setCell ⟨PP, 1, none⟩ (.int .i64 H)).setCell ⟨PP, 2, none⟩ (.slice none 0 0) = v5 at *
            refine wpAnyH_ready (rs := [12]) (by kernel_rfl) (by simp) ?_
            refine AllReadyH.cons rfl (fun K hK => ?_) AllReadyH.nil
            rw [if_pos (by rfl)]
            refine wp_store_mid 65 _ _ rfl BL 0 (encB (preB W (W * H) cells)).toArray rfl rfl (by rw [encB_size]; exact there24 hL5 rfl) (inf67.trans (by rw [encB_size])) (all_oneCell_toArray (encB_one _)) ?_
            have hL6 : BoxB (v5.setCells BL 0 (encB (preB W (W * H) cells))) BL (preB W (W * H) cells) := ⟨World.rangeAt_setCells_same _ _ 0 _ (by rw [encB_len]; exact there24 hL5 rfl), World.there_setCells (there24 hL5 rfl) BL 0 _⟩
            have hO6 : ∀ b, b ≠ BL → (v5.setCells BL 0 (encB (preB W (W * H) cells))).heap[b]? = v5.heap[b]? := fun b hb => heap_setCells hb _ 0 v5
            have hS6 := range_heap hS5 (hO6 GG (by omega))
            have hE6 := (hO6 w.heap.size (by omega)).trans hE5
            have hP6 := (hO6 PP (by omega)).trans hP5
            have hD6 := (hO6 DD (by omega)).trans hD5
            have hB6 : Below w.heap.size w (v5.setCells BL 0 (encB (preB W (W * H) cells))) := below_setCells _ 0 hB5 (by omega)
            refine hK.out _ _ hS6 (fun _ => ?_)
            clear hK K hO6 hS5 hE5 hP5 hL5 hD5 hB5
            generalize v5.setCells BL 0 (encB (preB W (W * H) cells)) = v6 at *
            have hzD := cell_of_block hD6 0
            have hzg := frozen_of_block hD6 0
            simp at hzD
            refine wpAnyH_ready (rs := [13]) (by kernel_rfl) (by simp) ?_
            refine AllReadyH.cons rfl (fun K hK => ?_) AllReadyH.nil
            go_simp
            have hO7 : ∀ b, b ≠ DD → (v6.setCell ⟨DD, 0, none⟩ (.int .i64 s)).heap[b]? = v6.heap[b]? := fun b hb => away_setC hb
            refine hK.out _ _ (range_heap hS6 (hO7 GG (by omega))) (fun _ => ?_)
            clear hK K
            refine wpAnyH_done (by kernel_rfl) ?_ _
            refine ⟨.pointer (some ⟨GG, 0, none⟩), .int .i64 W, .pointer (some ⟨GG, 1, none⟩), .int .i64 H, .agg #[.int .i64 W, .int .i64 H, .slice none 0 0], .agg #[.int .i64 W, .int .i64 H, .slice a1 cells.length c1, .bool false], .agg (encB (preB W (W * H) cells)).toArray, .int .i64 s, PP, BL, DD, ?_, hd1.1, hd1.2.1, hd1.2.2, by omega, by omega, by omega, (hO7 PP (by omega)).trans hP6, hL6.heap (hO7 BL (by omega)), block_set hD6 0 _, (hO7 w.heap.size (by omega)).trans hE6, hB6.trans ((Below.set 0 _).mono (by omega))⟩
            first | rfl | (simp only [Act.put, List.setIfInBounds_toArray, List.set_cons_zero, List.set_cons_succ]; rfl)
      · go_simp
        have hbk : Below v1.heap.size v1 (v1.alloc (.cells #[.int .u8 0, .int .u8 0, .int .u8 0, .int .u8 0, .int .u8 0, .int .u8 0, .int .u8 0, .int .u8 0, .int .u8 0, .int .u8 0, .int .u8 0, .int .u8 0, .int .u8 0, .int .u8 0, .int .u8 0, .int .u8 0, .int .u8 0, .int .u8 0, .int .u8 0, .int .u8 0, .int .u8 0, .int .u8 0, .int .u8 0, .int .u8 0] 65)) := (Below.refl _ _).alloc (Nat.le_refl _) _
        have hS2 := range_later hS1 hbk
        have hE2 := (hbk.block _ (block_lt hE1)).trans hE1
        have hA2 := hA1.later rfl hbk
        have hB2 := hB1.trans (hbk.mono hB1.size)
        have hG2 := Nat.lt_of_lt_of_le hG1 hbk.size
        have hP2 := (hbk.block _ (block_lt hP1)).trans hP1
        have hL2 : (v1.alloc (.cells #[.int .u8 0, .int .u8 0, .int .u8 0, .int .u8 0, .int .u8 0, .int .u8 0, .int .u8 0, .int .u8 0, .int .u8 0, .int .u8 0, .int .u8 0, .int .u8 0, .int .u8 0, .int .u8 0, .int .u8 0, .int .u8 0, .int .u8 0, .int .u8 0, .int .u8 0, .int .u8 0, .int .u8 0, .int .u8 0, .int .u8 0, .int .u8 0] 65)).heap[v1.heap.size]? = some (.cells zer 65 (0, 0)) := heap_alloc_new v1 (.cells #[.int .u8 0, .int .u8 0, .int .u8 0, .int .u8 0, .int .u8 0, .int .u8 0, .int .u8 0, .int .u8 0, .int .u8 0, .int .u8 0, .int .u8 0, .int .u8 0, .int .u8 0, .int .u8 0, .int .u8 0, .int .u8 0, .int .u8 0, .int .u8 0, .int .u8 0, .int .u8 0, .int .u8 0, .int .u8 0, .int .u8 0, .int .u8 0] 65)
        have hgL : GG < v1.heap.size := hG1
        have hlPL : PP < v1.heap.size := block_lt hP1
        refine hK.out _ _ hS2 (fun _ => ?_)
        clear hK K
        clear hbk hS1 hE1 hA1 hB1 hG1 hP1
        generalize v1.alloc (.cells #[.int .u8 0, .int .u8 0, .int .u8 0, .int .u8 0, .int .u8 0, .int .u8 0, .int .u8 0, .int .u8 0, .int .u8 0, .int .u8 0, .int .u8 0, .int .u8 0, .int .u8 0, .int .u8 0, .int .u8 0, .int .u8 0, .int .u8 0, .int .u8 0, .int .u8 0, .int .u8 0, .int .u8 0, .int .u8 0, .int .u8 0, .int .u8 0] 65) = v2 at *
        generalize v1.heap.size = BL at *
        refine wpAnyH_ready (rs := [6, 10]) (by kernel_rfl) (by simp) ?_
        refine AllReadyH.cons rfl (fun K hK => ?_) (AllReadyH.cons rfl (fun K hK => ?_) AllReadyH.nil)
        · go_simp
          refine (HL.out a1 c1 v2 hA2).mono ?_
          rintro e v3 ⟨rfl, hbk⟩
          have hS3 := range_later hS2 hbk
          have hE3 := (hbk.block _ (block_lt hE2)).trans hE2
          have hA3 := hA2.later rfl hbk
          have hB3 := hB2.trans (hbk.mono hB2.size)
          have hG3 := Nat.lt_of_lt_of_le hG2 hbk.size
          have hP3 := (hbk.block _ (block_lt hP2)).trans hP2
          have hL3 := (hbk.block _ (block_lt hL2)).trans hL2
          clear hbk hS2 hE2 hA2 hB2 hG2 hP2 hL2
          go_wp2_with fail
          refine hK.out _ _ hS3 (fun _ => ?_)
          clear hK K
          refine wpAnyH_ready (rs := [10]) (by kernel_rfl) (by simp) ?_
          refine AllReadyH.cons rfl (fun K hK => ?_) AllReadyH.nil
          · go_simp
            have hbk : Below v3.heap.size v3 (v3.alloc (.cells #[.int .i64 0] 71)) := (Below.refl _ _).alloc (Nat.le_refl _) _
            have hS4 := range_later hS3 hbk
            have hE4 := (hbk.block _ (block_lt hE3)).trans hE3
            have hA4 := hA3.later rfl hbk
            have hB4 := hB3.trans (hbk.mono hB3.size)
            have hG4 := Nat.lt_of_lt_of_le hG3 hbk.size
            have hP4 := (hbk.block _ (block_lt hP3)).trans hP3
            have hL4 := (hbk.block _ (block_lt hL3)).trans hL3
            have hD4 : (v3.alloc (.cells #[.int .i64 0] 71)).heap[v3.heap.size]? = some (.cells #[.int .i64 0] 71 (0, 0)) := heap_alloc_new v3 (.cells #[.int .i64 0] 71)
            have hgD : GG < v3.heap.size := hG3
            have hlPD : PP < v3.heap.size := block_lt hP3
            have hlLD : BL < v3.heap.size := block_lt hL3
            refine hK.out _ _ hS4 (fun _ => ?_)
            clear hK K
            clear hbk hS3 hE3 hA3 hB3 hG3 hP3 hL3
            generalize v3.alloc (.cells #[.int .i64 0] 71) = v4 at *
            generalize v3.heap.size = DD at *
            have hd1 : PP ≠ BL ∧ PP ≠ DD ∧ BL ≠ DD := by omega
            have hzP0 := cell_of_block hP4 0
            have hzP1 := cell_of_block hP4 1
            have hzP2 := cell_of_block hP4 2
            have hzf := frozen_of_block hP4
            simp at hzP0 hzP1 hzP2
            obtain ⟨hP5, hb5⟩ := puzzle_stored (B := w.heap.size) hP4 (by omega) (.int .i64 W) (.int .i64 H) (.slice none 0 0)
            have hO5 : ∀ b, b ≠ PP → (((v4.setCell ⟨PP, 0, none⟩ (.int .i64 W)).setCell ⟨PP, 1, none⟩ (.int .i64 H)).setCell ⟨PP, 2, none⟩ (.slice none 0 0)).heap[b]? = v4.heap[b]? := fun b hb => (away_setC hb).trans ((away_setC hb).trans (away_setC hb))
            have hS5 := range_heap hS4 (hO5 GG (by omega))
            have hE5 := (hO5 w.heap.size (by omega)).trans hE4
            have hL5 := (hO5 BL (by omega)).trans hL4
            have hD5 := (hO5 DD (by omega)).trans hD4
            have hB5 := hB4.trans hb5
            refine wpAnyH_ready (rs := [11]) (by kernel_rfl) (by simp) ?_
            refine AllReadyH.cons rfl (fun K hK => ?_) AllReadyH.nil
            go_simp
            refine hK.out _ _ hS5 (fun _ => ?_)
            clear hK K
            clear hO5 hb5 hS4 hE4 hA4 hB4 hG4 hP4 hL4 hD4 hzP0 hzP1 hzP2 hzf
            generalize ((v4.setCell ⟨PP, 0, none⟩ (.int .i64 W)).setCell ⟨PP, 1, none⟩ (.int .i64 H)).setCell ⟨PP, 2, none⟩ (.slice none 0 0) = v5 at *
            refine wpAnyH_ready (rs := [12]) (by kernel_rfl) (by simp) ?_
            refine AllReadyH.cons rfl (fun K hK => ?_) AllReadyH.nil
            rw [if_pos (by rfl)]
            refine wp_store_mid 65 _ _ rfl BL 0 (encB (preB W (W * H) cells)).toArray rfl rfl (by rw [encB_size]; exact there24 hL5 rfl) (inf67.trans (by rw [encB_size])) (all_oneCell_toArray (encB_one _)) ?_
            have hL6 : BoxB (v5.setCells BL 0 (encB (preB W (W * H) cells))) BL (preB W (W * H) cells) := ⟨World.rangeAt_setCells_same _ _ 0 _ (by rw [encB_len]; exact there24 hL5 rfl), World.there_setCells (there24 hL5 rfl) BL 0 _⟩
            have hO6 : ∀ b, b ≠ BL → (v5.setCells BL 0 (encB (preB W (W * H) cells))).heap[b]? = v5.heap[b]? := fun b hb => heap_setCells hb _ 0 v5
            have hS6 := range_heap hS5 (hO6 GG (by omega))
            have hE6 := (hO6 w.heap.size (by omega)).trans hE5
            have hP6 := (hO6 PP (by omega)).trans hP5
            have hD6 := (hO6 DD (by omega)).trans hD5
            have hB6 : Below w.heap.size w (v5.setCells BL 0 (encB (preB W (W * H) cells))) := below_setCells _ 0 hB5 (by omega)
            refine hK.out _ _ hS6 (fun _ => ?_)
            clear hK K hO6 hS5 hE5 hP5 hL5 hD5 hB5
            generalize v5.setCells BL 0 (encB (preB W (W * H) cells)) = v6 at *
            have hzD := cell_of_block hD6 0
            have hzg := frozen_of_block hD6 0
            simp at hzD
            refine wpAnyH_ready (rs := [13]) (by kernel_rfl) (by simp) ?_
            refine AllReadyH.cons rfl (fun K hK => ?_) AllReadyH.nil
            go_simp
            have hO7 : ∀ b, b ≠ DD → (v6.setCell ⟨DD, 0, none⟩ (.int .i64 s)).heap[b]? = v6.heap[b]? := fun b hb => away_setC hb
            refine hK.out _ _ (range_heap hS6 (hO7 GG (by omega))) (fun _ => ?_)
            clear hK K
            refine wpAnyH_done (by kernel_rfl) ?_ _
            refine ⟨.pointer (some ⟨GG, 0, none⟩), .int .i64 W, .pointer (some ⟨GG, 1, none⟩), .int .i64 H, .agg #[.int .i64 W, .int .i64 H, .slice none 0 0], .agg #[.int .i64 W, .int .i64 H, .slice a1 cells.length c1, .bool false], .agg (encB (preB W (W * H) cells)).toArray, .int .i64 s, PP, BL, DD, ?_, hd1.1, hd1.2.1, hd1.2.2, by omega, by omega, by omega, (hO7 PP (by omega)).trans hP6, hL6.heap (hO7 BL (by omega)), block_set hD6 0 _, (hO7 w.heap.size (by omega)).trans hE6, hB6.trans ((Below.set 0 _).mono (by omega))⟩
            first | rfl | (simp only [Act.put, List.setIfInBounds_toArray, List.set_cons_zero, List.set_cons_succ]; rfl)
        · go_simp
          have hbk : Below v2.heap.size v2 (v2.alloc (.cells #[.int .i64 0] 71)) := (Below.refl _ _).alloc (Nat.le_refl _) _
          have hS3 := range_later hS2 hbk
          have hE3 := (hbk.block _ (block_lt hE2)).trans hE2
          have hA3 := hA2.later rfl hbk
          have hB3 := hB2.trans (hbk.mono hB2.size)
          have hG3 := Nat.lt_of_lt_of_le hG2 hbk.size
          have hP3 := (hbk.block _ (block_lt hP2)).trans hP2
          have hL3 := (hbk.block _ (block_lt hL2)).trans hL2
          have hD3 : (v2.alloc (.cells #[.int .i64 0] 71)).heap[v2.heap.size]? = some (.cells #[.int .i64 0] 71 (0, 0)) := heap_alloc_new v2 (.cells #[.int .i64 0] 71)
          have hgD : GG < v2.heap.size := hG2
          have hlPD : PP < v2.heap.size := block_lt hP2
          have hlLD : BL < v2.heap.size := block_lt hL2
          refine hK.out _ _ hS3 (fun _ => ?_)
          clear hK K
          clear hbk hS2 hE2 hA2 hB2 hG2 hP2 hL2
          generalize v2.alloc (.cells #[.int .i64 0] 71) = v3 at *
          generalize v2.heap.size = DD at *
          refine wpAnyH_ready (rs := [6]) (by kernel_rfl) (by simp) ?_
          refine AllReadyH.cons rfl (fun K hK => ?_) AllReadyH.nil
          · go_simp
            refine (HL.out a1 c1 v3 hA3).mono ?_
            rintro e v4 ⟨rfl, hbk⟩
            have hS4 := range_later hS3 hbk
            have hE4 := (hbk.block _ (block_lt hE3)).trans hE3
            have hA4 := hA3.later rfl hbk
            have hB4 := hB3.trans (hbk.mono hB3.size)
            have hG4 := Nat.lt_of_lt_of_le hG3 hbk.size
            have hP4 := (hbk.block _ (block_lt hP3)).trans hP3
            have hL4 := (hbk.block _ (block_lt hL3)).trans hL3
            have hD4 := (hbk.block _ (block_lt hD3)).trans hD3
            clear hbk hS3 hE3 hA3 hB3 hG3 hP3 hL3 hD3
            go_wp2_with fail
            refine hK.out _ _ hS4 (fun _ => ?_)
            clear hK K
            have hd1 : PP ≠ BL ∧ PP ≠ DD ∧ BL ≠ DD := by omega
            have hzP0 := cell_of_block hP4 0
            have hzP1 := cell_of_block hP4 1
            have hzP2 := cell_of_block hP4 2
            have hzf := frozen_of_block hP4
            simp at hzP0 hzP1 hzP2
            obtain ⟨hP5, hb5⟩ := puzzle_stored (B := w.heap.size) hP4 (by omega) (.int .i64 W) (.int .i64 H) (.slice none 0 0)
            have hO5 : ∀ b, b ≠ PP → (((v4.setCell ⟨PP, 0, none⟩ (.int .i64 W)).setCell ⟨PP, 1, none⟩ (.int .i64 H)).setCell ⟨PP, 2, none⟩ (.slice none 0 0)).heap[b]? = v4.heap[b]? := fun b hb => (away_setC hb).trans ((away_setC hb).trans (away_setC hb))
            have hS5 := range_heap hS4 (hO5 GG (by omega))
            have hE5 := (hO5 w.heap.size (by omega)).trans hE4
            have hL5 := (hO5 BL (by omega)).trans hL4
            have hD5 := (hO5 DD (by omega)).trans hD4
            have hB5 := hB4.trans hb5
            refine wpAnyH_ready (rs := [11]) (by kernel_rfl) (by simp) ?_
            refine AllReadyH.cons rfl (fun K hK => ?_) AllReadyH.nil
            go_simp
            refine hK.out _ _ hS5 (fun _ => ?_)
            clear hK K
            clear hO5 hb5 hS4 hE4 hA4 hB4 hG4 hP4 hL4 hD4 hzP0 hzP1 hzP2 hzf
            generalize ((v4.setCell ⟨PP, 0, none⟩ (.int .i64 W)).setCell ⟨PP, 1, none⟩ (.int .i64 H)).setCell ⟨PP, 2, none⟩ (.slice none 0 0) = v5 at *
            refine wpAnyH_ready (rs := [12]) (by kernel_rfl) (by simp) ?_
            refine AllReadyH.cons rfl (fun K hK => ?_) AllReadyH.nil
            rw [if_pos (by rfl)]
            refine wp_store_mid 65 _ _ rfl BL 0 (encB (preB W (W * H) cells)).toArray rfl rfl (by rw [encB_size]; exact there24 hL5 rfl) (inf67.trans (by rw [encB_size])) (all_oneCell_toArray (encB_one _)) ?_
            have hL6 : BoxB (v5.setCells BL 0 (encB (preB W (W * H) cells))) BL (preB W (W * H) cells) := ⟨World.rangeAt_setCells_same _ _ 0 _ (by rw [encB_len]; exact there24 hL5 rfl), World.there_setCells (there24 hL5 rfl) BL 0 _⟩
            have hO6 : ∀ b, b ≠ BL → (v5.setCells BL 0 (encB (preB W (W * H) cells))).heap[b]? = v5.heap[b]? := fun b hb => heap_setCells hb _ 0 v5
            have hS6 := range_heap hS5 (hO6 GG (by omega))
            have hE6 := (hO6 w.heap.size (by omega)).trans hE5
            have hP6 := (hO6 PP (by omega)).trans hP5
            have hD6 := (hO6 DD (by omega)).trans hD5
            have hB6 : Below w.heap.size w (v5.setCells BL 0 (encB (preB W (W * H) cells))) := below_setCells _ 0 hB5 (by omega)
            refine hK.out _ _ hS6 (fun _ => ?_)
            clear hK K hO6 hS5 hE5 hP5 hL5 hD5 hB5
            generalize v5.setCells BL 0 (encB (preB W (W * H) cells)) = v6 at *
            have hzD := cell_of_block hD6 0
            have hzg := frozen_of_block hD6 0
            simp at hzD
            refine wpAnyH_ready (rs := [13]) (by kernel_rfl) (by simp) ?_
            refine AllReadyH.cons rfl (fun K hK => ?_) AllReadyH.nil
            go_simp
            have hO7 : ∀ b, b ≠ DD → (v6.setCell ⟨DD, 0, none⟩ (.int .i64 s)).heap[b]? = v6.heap[b]? := fun b hb => away_setC hb
            refine hK.out _ _ (range_heap hS6 (hO7 GG (by omega))) (fun _ => ?_)
            clear hK K
            refine wpAnyH_done (by kernel_rfl) ?_ _
            refine ⟨.pointer (some ⟨GG, 0, none⟩), .int .i64 W, .pointer (some ⟨GG, 1, none⟩), .int .i64 H, .agg #[.int .i64 W, .int .i64 H, .slice none 0 0], .agg #[.int .i64 W, .int .i64 H, .slice a1 cells.length c1, .bool false], .agg (encB (preB W (W * H) cells)).toArray, .int .i64 s, PP, BL, DD, ?_, hd1.1, hd1.2.1, hd1.2.2, by omega, by omega, by omega, (hO7 PP (by omega)).trans hP6, hL6.heap (hO7 BL (by omega)), block_set hD6 0 _, (hO7 w.heap.size (by omega)).trans hE6, hB6.trans ((Below.set 0 _).mono (by omega))⟩
            first | rfl | (simp only [Act.put, List.setIfInBounds_toArray, List.set_cons_zero, List.set_cons_succ]; rfl)
      · go_simp
        have hbk : Below v1.heap.size v1 (v1.alloc (.cells #[.int .i64 0] 71)) := (Below.refl _ _).alloc (Nat.le_refl _) _
        have hS2 := range_later hS1 hbk
        have hE2 := (hbk.block _ (block_lt hE1)).trans hE1
        have hA2 := hA1.later rfl hbk
        have hB2 := hB1.trans (hbk.mono hB1.size)
        have hG2 := Nat.lt_of_lt_of_le hG1 hbk.size
        have hP2 := (hbk.block _ (block_lt hP1)).trans hP1
        have hD2 : (v1.alloc (.cells #[.int .i64 0] 71)).heap[v1.heap.size]? = some (.cells #[.int .i64 0] 71 (0, 0)) := heap_alloc_new v1 (.cells #[.int .i64 0] 71)
        have hgD : GG < v1.heap.size := hG1
        have hlPD : PP < v1.heap.size := block_lt hP1
        refine hK.out _ _ hS2 (fun _ => ?_)
        clear hK K
        clear hbk hS1 hE1 hA1 hB1 hG1 hP1
        generalize v1.alloc (.cells #[.int .i64 0] 71) = v2 at *
        generalize v1.heap.size = DD at *
        refine wpAnyH_ready (rs := [6, 9]) (by kernel_rfl) (by simp) ?_
        refine AllReadyH.cons rfl (fun K hK => ?_) (AllReadyH.cons rfl (fun K hK => ?_) AllReadyH.nil)
        · go_simp
          refine (HL.out a1 c1 v2 hA2).mono ?_
          rintro e v3 ⟨rfl, hbk⟩
          have hS3 := range_later hS2 hbk
          have hE3 := (hbk.block _ (block_lt hE2)).trans hE2
          have hA3 := hA2.later rfl hbk
          have hB3 := hB2.trans (hbk.mono hB2.size)
          have hG3 := Nat.lt_of_lt_of_le hG2 hbk.size
          have hP3 := (hbk.block _ (block_lt hP2)).trans hP2
          have hD3 := (hbk.block _ (block_lt hD2)).trans hD2
          clear hbk hS2 hE2 hA2 hB2 hG2 hP2 hD2
          go_wp2_with fail
          refine hK.out _ _ hS3 (fun _ => ?_)
          clear hK K
          refine wpAnyH_ready (rs := [9]) (by kernel_rfl) (by simp) ?_
          refine AllReadyH.cons rfl (fun K hK => ?_) AllReadyH.nil
          · go_simp
            have hbk : Below v3.heap.size v3 (v3.alloc (.cells #[.int .u8 0, .int .u8 0, .int .u8 0, .int .u8 0, .int .u8 0, .int .u8 0, .int .u8 0, .int .u8 0, .int .u8 0, .int .u8 0, .int .u8 0, .int .u8 0, .int .u8 0, .int .u8 0, .int .u8 0, .int .u8 0, .int .u8 0, .int .u8 0, .int .u8 0, .int .u8 0, .int .u8 0, .int .u8 0, .int .u8 0, .int .u8 0] 65)) := (Below.refl _ _).alloc (Nat.le_refl _) _
            have hS4 := range_later hS3 hbk
            have hE4 := (hbk.block _ (block_lt hE3)).trans hE3
            have hA4 := hA3.later rfl hbk
            have hB4 := hB3.trans (hbk.mono hB3.size)
            have hG4 := Nat.lt_of_lt_of_le hG3 hbk.size
            have hP4 := (hbk.block _ (block_lt hP3)).trans hP3
            have hD4 := (hbk.block _ (block_lt hD3)).trans hD3
            have hL4 : (v3.alloc (.cells #[.int .u8 0, .int .u8 0, .int .u8 0, .int .u8 0, .int .u8 0, .int .u8 0, .int .u8 0, .int .u8 0, .int .u8 0, .int .u8 0, .int .u8 0, .int .u8 0, .int .u8 0, .int .u8 0, .int .u8 0, .int .u8 0, .int .u8 0, .int .u8 0, .int .u8 0, .int .u8 0, .int .u8 0, .int .u8 0, .int .u8 0, .int .u8 0] 65)).heap[v3.heap.size]? = some (.cells zer 65 (0, 0)) := heap_alloc_new v3 (.cells #[.int .u8 0, .int .u8 0, .int .u8 0, .int .u8 0, .int .u8 0, .int .u8 0, .int .u8 0, .int .u8 0, .int .u8 0, .int .u8 0, .int .u8 0, .int .u8 0, .int .u8 0, .int .u8 0, .int .u8 0, .int .u8 0, .int .u8 0, .int .u8 0, .int .u8 0, .int .u8 0, .int .u8 0, .int .u8 0, .int .u8 0, .int .u8 0] 65)
            have hgL : GG < v3.heap.size := hG3
            have hlPL : PP < v3.heap.size := block_lt hP3
            have hlDL : DD < v3.heap.size := block_lt hD3
            refine hK.out _ _ hS4 (fun _ => ?_)
            clear hK K
            clear hbk hS3 hE3 hA3 hB3 hG3 hP3 hD3
            generalize v3.alloc (.cells #[.int .u8 0, .int .u8 0, .int .u8 0, .int .u8 0, .int .u8 0, .int .u8 0, .int .u8 0, .int .u8 0, .int .u8 0, .int .u8 0, .int .u8 0, .int .u8 0, .int .u8 0, .int .u8 0, .int .u8 0, .int .u8 0, .int .u8 0, .int .u8 0, .int .u8 0, .int .u8 0, .int .u8 0, .int .u8 0, .int .u8 0, .int .u8 0] 65) = v4 at *
            generalize v3.heap.size = BL at *
            have hd1 : PP ≠ BL ∧ PP ≠ DD ∧ BL ≠ DD := by omega
            have hzP0 := cell_of_block hP4 0
            have hzP1 := cell_of_block hP4 1
            have hzP2 := cell_of_block hP4 2
            have hzf := frozen_of_block hP4
            simp at hzP0 hzP1 hzP2
            obtain ⟨hP5, hb5⟩ := puzzle_stored (B := w.heap.size) hP4 (by omega) (.int .i64 W) (.int .i64 H) (.slice none 0 0)
            have hO5 : ∀ b, b ≠ PP → (((v4.setCell ⟨PP, 0, none⟩ (.int .i64 W)).setCell ⟨PP, 1, none⟩ (.int .i64 H)).setCell ⟨PP, 2, none⟩ (.slice none 0 0)).heap[b]? = v4.heap[b]? := fun b hb => (away_setC hb).trans ((away_setC hb).trans (away_setC hb))
            have hS5 := range_heap hS4 (hO5 GG (by omega))
            have hE5 := (hO5 w.heap.size (by omega)).trans hE4
            have hL5 := (hO5 BL (by omega)).trans hL4
            have hD5 := (hO5 DD (by omega)).trans hD4
            have hB5 := hB4.trans hb5
            refine wpAnyH_ready (rs := [11]) (by kernel_rfl) (by simp) ?_
            refine AllReadyH.cons rfl (fun K hK => ?_) AllReadyH.nil
            go_simp
            refine hK.out _ _ hS5 (fun _ => ?_)
            clear hK K
            clear hO5 hb5 hS4 hE4 hA4 hB4 hG4 hP4 hL4 hD4 hzP0 hzP1 hzP2 hzf
            generalize ((v4.setCell ⟨PP, 0, none⟩ (.int .i64 W)).setCell ⟨PP, 1, none⟩ (.int .i64 H)).setCell ⟨PP, 2, none⟩ (.slice none 0 0) = v5 at *
            refine wpAnyH_ready (rs := [12]) (by kernel_rfl) (by simp) ?_
            refine AllReadyH.cons rfl (fun K hK => ?_) AllReadyH.nil
            rw [if_pos (by rfl)]
            refine wp_store_mid 65 _ _ rfl BL 0 (encB (preB W (W * H) cells)).toArray rfl rfl (by rw [encB_size]; exact there24 hL5 rfl) (inf67.trans (by rw [encB_size])) (all_oneCell_toArray (encB_one _)) ?_
            have hL6 : BoxB (v5.setCells BL 0 (encB (preB W (W * H) cells))) BL (preB W (W * H) cells) := ⟨World.rangeAt_setCells_same _ _ 0 _ (by rw [encB_len]; exact there24 hL5 rfl), World.there_setCells (there24 hL5 rfl) BL 0 _⟩
            have hO6 : ∀ b, b ≠ BL → (v5.setCells BL 0 (encB (preB W (W * H) cells))).heap[b]? = v5.heap[b]? := fun b hb => heap_setCells hb _ 0 v5
            have hS6 := range_heap hS5 (hO6 GG (by omega))
            have hE6 := (hO6 w.heap.size (by omega)).trans hE5
            have hP6 := (hO6 PP (by omega)).trans hP5
            have hD6 := (hO6 DD (by omega)).trans hD5
            have hB6 : Below w.heap.size w (v5.setCells BL 0 (encB (preB W (W * H) cells))) := below_setCells _ 0 hB5 (by omega)
            refine hK.out _ _ hS6 (fun _ => ?_)
            clear hK K hO6 hS5 hE5 hP5 hL5 hD5 hB5
            generalize v5.setCells BL 0 (encB (preB W (W * H) cells)) = v6 at *
            have hzD := cell_of_block hD6 0
            have hzg := frozen_of_block hD6 0
            simp at hzD
            refine wpAnyH_ready (rs := [13]) (by kernel_rfl) (by simp) ?_
            refine AllReadyH.cons rfl (fun K hK => ?_) AllReadyH.nil
            go_simp
            have hO7 : ∀ b, b ≠ DD → (v6.setCell ⟨DD, 0, none⟩ (.int .i64 s)).heap[b]? = v6.heap[b]? := fun b hb => away_setC hb
            refine hK.out _ _ (range_heap hS6 (hO7 GG (by omega))) (fun _ => ?_)
            clear hK K
            refine wpAnyH_done (by kernel_rfl) ?_ _
            refine ⟨.pointer (some ⟨GG, 0, none⟩), .int .i64 W, .pointer (some ⟨GG, 1, none⟩), .int .i64 H, .agg #[.int .i64 W, .int .i64 H, .slice none 0 0], .agg #[.int .i64 W, .int .i64 H, .slice a1 cells.length c1, .bool false], .agg (encB (preB W (W * H) cells)).toArray, .int .i64 s, PP, BL, DD, ?_, hd1.1, hd1.2.1, hd1.2.2, by omega, by omega, by omega, (hO7 PP (by omega)).trans hP6, hL6.heap (hO7 BL (by omega)), block_set hD6 0 _, (hO7 w.heap.size (by omega)).trans hE6, hB6.trans ((Below.set 0 _).mono (by omega))⟩
            first | rfl | (simp only [Act.put, List.setIfInBounds_toArray, List.set_cons_zero, List.set_cons_succ]; rfl)
        · go_simp
          have hbk : Below v2.heap.size v2 (v2.alloc (.cells #[.int .u8 0, .int .u8 0, .int .u8 0, .int .u8 0, .int .u8 0, .int .u8 0, .int .u8 0, .int .u8 0, .int .u8 0, .int .u8 0, .int .u8 0, .int .u8 0, .int .u8 0, .int .u8 0, .int .u8 0, .int .u8 0, .int .u8 0, .int .u8 0, .int .u8 0, .int .u8 0, .int .u8 0, .int .u8 0, .int .u8 0, .int .u8 0] 65)) := (Below.refl _ _).alloc (Nat.le_refl _) _
          have hS3 := range_later hS2 hbk
          have hE3 := (hbk.block _ (block_lt hE2)).trans hE2
          have hA3 := hA2.later rfl hbk
          have hB3 := hB2.trans (hbk.mono hB2.size)
          have hG3 := Nat.lt_of_lt_of_le hG2 hbk.size
          have hP3 := (hbk.block _ (block_lt hP2)).trans hP2
          have hD3 := (hbk.block _ (block_lt hD2)).trans hD2
          have hL3 : (v2.alloc (.cells #[.int .u8 0, .int .u8 0, .int .u8 0, .int .u8 0, .int .u8 0, .int .u8 0, .int .u8 0, .int .u8 0, .int .u8 0, .int .u8 0, .int .u8 0, .int .u8 0, .int .u8 0, .int .u8 0, .int .u8 0, .int .u8 0, .int .u8 0, .int .u8 0, .int .u8 0, .int .u8 0, .int .u8 0, .int .u8 0, .int .u8 0, .int .u8 0] 65)).heap[v2.heap.size]? = some (.cells zer 65 (0, 0)) := heap_alloc_new v2 (.cells #[.int .u8 0, .int .u8 0, .int .u8 0, .int .u8 0, .int .u8 0, .int .u8 0, .int .u8 0, .int .u8 0, .int .u8 0, .int .u8 0, .int .u8 0, .int .u8 0, .int .u8 0, .int .u8 0, .int .u8 0, .int .u8 0, .int .u8 0, .int .u8 0, .int .u8 0, .int .u8 0, .int .u8 0, .int .u8 0, .int .u8 0, .int .u8 0] 65)
          have hgL : GG < v2.heap.size := hG2
          have hlPL : PP < v2.heap.size := block_lt hP2
          have hlDL : DD < v2.heap.size := block_lt hD2
          refine hK.out _ _ hS3 (fun _ => ?_)
          clear hK K
          clear hbk hS2 hE2 hA2 hB2 hG2 hP2 hD2
          generalize v2.alloc (.cells #[.int .u8 0, .int .u8 0, .int .u8 0, .int .u8 0, .int .u8 0, .int .u8 0, .int .u8 0, .int .u8 0, .int .u8 0, .int .u8 0, .int .u8 0, .int .u8 0, .int .u8 0, .int .u8 0, .int .u8 0, .int .u8 0, .int .u8 0, .int .u8 0, .int .u8 0, .int .u8 0, .int .u8 0, .int .u8 0, .int .u8 0, .int .u8 0] 65) = v3 at *
          generalize v2.heap.size = BL at *
          refine wpAnyH_ready (rs := [6]) (by kernel_rfl) (by simp) ?_
          refine AllReadyH.cons rfl (fun K hK => ?_) AllReadyH.nil
          · go_simp
            refine (HL.out a1 c1 v3 hA3).mono ?_
            rintro e v4 ⟨rfl, hbk⟩
            have hS4 := range_later hS3 hbk
            have hE4 := (hbk.block _ (block_lt hE3)).trans hE3
            have hA4 := hA3.later rfl hbk
            have hB4 := hB3.trans (hbk.mono hB3.size)
            have hG4 := Nat.lt_of_lt_of_le hG3 hbk.size
            have hP4 := (hbk.block _ (block_lt hP3)).trans hP3
            have hD4 := (hbk.block _ (block_lt hD3)).trans hD3
            have hL4 := (hbk.block _ (block_lt hL3)).trans hL3
            clear hbk hS3 hE3 hA3 hB3 hG3 hP3 hD3 hL3
            go_wp2_with fail
            refine hK.out _ _ hS4 (fun _ => ?_)
            clear hK K
            have hd1 : PP ≠ BL ∧ PP ≠ DD ∧ BL ≠ DD := by omega
            have hzP0 := cell_of_block hP4 0
            have hzP1 := cell_of_block hP4 1
            have hzP2 := cell_of_block hP4 2
            have hzf := frozen_of_block hP4
            simp at hzP0 hzP1 hzP2
            obtain ⟨hP5, hb5⟩ := puzzle_stored (B := w.heap.size) hP4 (by omega) (.int .i64 W) (.int .i64 H) (.slice none 0 0)
            have hO5 : ∀ b, b ≠ PP → (((v4.setCell ⟨PP, 0, none⟩ (.int .i64 W)).setCell ⟨PP, 1, none⟩ (.int .i64 H)).setCell ⟨PP, 2, none⟩ (.slice none 0 0)).heap[b]? = v4.heap[b]? := fun b hb => (away_setC hb).trans ((away_setC hb).trans (away_setC hb))
            have hS5 := range_heap hS4 (hO5 GG (by omega))
            have hE5 := (hO5 w.heap.size (by omega)).trans hE4
            have hL5 := (hO5 BL (by omega)).trans hL4
            have hD5 := (hO5 DD (by omega)).trans hD4
            have hB5 := hB4.trans hb5
            refine wpAnyH_ready (rs := [11]) (by kernel_rfl) (by simp) ?_
            refine AllReadyH.cons rfl (fun K hK => ?_) AllReadyH.nil
            go_simp
            refine hK.out _ _ hS5 (fun _ => ?_)
            clear hK K
            clear hO5 hb5 hS4 hE4 hA4 hB4 hG4 hP4 hL4 hD4 hzP0 hzP1 hzP2 hzf
            generalize ((v4.setCell ⟨PP, 0, none⟩ (.int .i64 W)).setCell ⟨PP, 1, none⟩ (.int .i64 H)).setCell ⟨PP, 2, none⟩ (.slice none 0 0) = v5 at *
            refine wpAnyH_ready (rs := [12]) (by kernel_rfl) (by simp) ?_
            refine AllReadyH.cons rfl (fun K hK => ?_) AllReadyH.nil
            rw [if_pos (by rfl)]
            refine wp_store_mid 65 _ _ rfl BL 0 (encB (preB W (W * H) cells)).toArray rfl rfl (by rw [encB_size]; exact there24 hL5 rfl) (inf67.trans (by rw [encB_size])) (all_oneCell_toArray (encB_one _)) ?_
            have hL6 : BoxB (v5.setCells BL 0 (encB (preB W (W * H) cells))) BL (preB W (W * H) cells) := ⟨World.rangeAt_setCells_same _ _ 0 _ (by rw [encB_len]; exact there24 hL5 rfl), World.there_setCells (there24 hL5 rfl) BL 0 _⟩
            have hO6 : ∀ b, b ≠ BL → (v5.setCells BL 0 (encB (preB W (W * H) cells))).heap[b]? = v5.heap[b]? := fun b hb => heap_setCells hb _ 0 v5
            have hS6 := range_heap hS5 (hO6 GG (by omega))
            have hE6 := (hO6 w.heap.size (by omega)).trans hE5
            have hP6 := (hO6 PP (by omega)).trans hP5
            have hD6 := (hO6 DD (by omega)).trans hD5
            have hB6 : Below w.heap.size w (v5.setCells BL 0 (encB (preB W (W * H) cells))) := below_setCells _ 0 hB5 (by omega)
            refine hK.out _ _ hS6 (fun _ => ?_)
            clear hK K hO6 hS5 hE5 hP5 hL5 hD5 hB5
            generalize v5.setCells BL 0 (encB (preB W (W * H) cells)) = v6 at *
            have hzD := cell_of_block hD6 0
            have hzg := frozen_of_block hD6 0
            simp at hzD
            refine wpAnyH_ready (rs := [13]) (by kernel_rfl) (by simp) ?_
            refine AllReadyH.cons rfl (fun K hK => ?_) AllReadyH.nil
            go_simp
            have hO7 : ∀ b, b ≠ DD → (v6.setCell ⟨DD, 0, none⟩ (.int .i64 s)).heap[b]? = v6.heap[b]? := fun b hb => away_setC hb
            refine hK.out _ _ (range_heap hS6 (hO7 GG (by omega))) (fun _ => ?_)
            clear hK K
            refine wpAnyH_done (by kernel_rfl) ?_ _
            refine ⟨.pointer (some ⟨GG, 0, none⟩), .int .i64 W, .pointer (some ⟨GG, 1, none⟩), .int .i64 H, .agg #[.int .i64 W, .int .i64 H, .slice none 0 0], .agg #[.int .i64 W, .int .i64 H, .slice a1 cells.length c1, .bool false], .agg (encB (preB W (W * H) cells)).toArray, .int .i64 s, PP, BL, DD, ?_, hd1.1, hd1.2.1, hd1.2.2, by omega, by omega, by omega, (hO7 PP (by omega)).trans hP6, hL6.heap (hO7 BL (by omega)), block_set hD6 0 _, (hO7 w.heap.size (by omega)).trans hE6, hB6.trans ((Below.set 0 _).mono (by omega))⟩
            first | rfl | (simp only [Act.put, List.setIfInBounds_toArray, List.set_cons_zero, List.set_cons_succ]; rfl)
    · go_simp
      have hbk : Below v0.heap.size v0 (v0.alloc (.cells #[.int .u8 0, .int .u8 0, .int .u8 0, .int .u8 0, .int .u8 0, .int .u8 0, .int .u8 0, .int .u8 0, .int .u8 0, .int .u8 0, .int .u8 0, .int .u8 0, .int .u8 0, .int .u8 0, .int .u8 0, .int .u8 0, .int .u8 0, .int .u8 0, .int .u8 0, .int .u8 0, .int .u8 0, .int .u8 0, .int .u8 0, .int .u8 0] 65)) := (Below.refl _ _).alloc (Nat.le_refl _) _
      have hS1 := range_later hSd hbk
      have hE1 := (hbk.block _ (block_lt hEd)).trans hEd
      have hA1 := hAd.later rfl hbk
      have hB1 := hBd.trans (hbk.mono hBd.size)
      have hG1 := Nat.lt_of_lt_of_le hGd hbk.size
      have hL1 : (v0.alloc (.cells #[.int .u8 0, .int .u8 0, .int .u8 0, .int .u8 0, .int .u8 0, .int .u8 0, .int .u8 0, .int .u8 0, .int .u8 0, .int .u8 0, .int .u8 0, .int .u8 0, .int .u8 0, .int .u8 0, .int .u8 0, .int .u8 0, .int .u8 0, .int .u8 0, .int .u8 0, .int .u8 0, .int .u8 0, .int .u8 0, .int .u8 0, .int .u8 0] 65)).heap[v0.heap.size]? = some (.cells zer 65 (0, 0)) := heap_alloc_new v0 (.cells #[.int .u8 0, .int .u8 0, .int .u8 0, .int .u8 0, .int .u8 0, .int .u8 0, .int .u8 0, .int .u8 0, .int .u8 0, .int .u8 0, .int .u8 0, .int .u8 0, .int .u8 0, .int .u8 0, .int .u8 0, .int .u8 0, .int .u8 0, .int .u8 0, .int .u8 0, .int .u8 0, .int .u8 0, .int .u8 0, .int .u8 0, .int .u8 0] 65)
      have hgL : GG < v0.heap.size := hGd
      refine hK.out _ _ hS1 (fun _ => ?_)
      clear hK K
      clear hbk hSd hEd hAd hBd hGd
      generalize v0.alloc (.cells #[.int .u8 0, .int .u8 0, .int .u8 0, .int .u8 0, .int .u8 0, .int .u8 0, .int .u8 0, .int .u8 0, .int .u8 0, .int .u8 0, .int .u8 0, .int .u8 0, .int .u8 0, .int .u8 0, .int .u8 0, .int .u8 0, .int .u8 0, .int .u8 0, .int .u8 0, .int .u8 0, .int .u8 0, .int .u8 0, .int .u8 0, .int .u8 0] 65) = v1 at *
      generalize v0.heap.size = BL at *
      refine wpAnyH_ready (rs := [6, 8, 10]) (by kernel_rfl) (by simp) ?_
      refine AllReadyH.cons rfl (fun K hK => ?_) (AllReadyH.cons rfl (fun K hK => ?_) (AllReadyH.cons rfl (fun K hK => ?_) AllReadyH.nil))
      · go_simp
        refine (HL.out a1 c1 v1 hA1).mono ?_
        rintro e v2 ⟨rfl, hbk⟩
        have hS2 := range_later hS1 hbk
        have hE2 := (hbk.block _ (block_lt hE1)).trans hE1
        have hA2 := hA1.later rfl hbk
        have hB2 := hB1.trans (hbk.mono hB1.size)
        have hG2 := Nat.lt_of_lt_of_le hG1 hbk.size
        have hL2 := (hbk.block _ (block_lt hL1)).trans hL1
        clear hbk hS1 hE1 hA1 hB1 hG1 hL1
        go_wp2_with fail
        refine hK.out _ _ hS2 (fun _ => ?_)
        clear hK K
        refine wpAnyH_ready (rs := [8, 10]) (by kernel_rfl) (by simp) ?_
        refine AllReadyH.cons rfl (fun K hK => ?_) (AllReadyH.cons rfl (fun K hK => ?_) AllReadyH.nil)
        · go_simp
          have hbk : Below v2.heap.size v2 (v2.alloc (.cells #[.int .i64 0, .int .i64 0, .slice none 0 0] 31)) := (Below.refl _ _).alloc (Nat.le_refl _) _
          have hS3 := range_later hS2 hbk
          have hE3 := (hbk.block _ (block_lt hE2)).trans hE2
          have hA3 := hA2.later rfl hbk
          have hB3 := hB2.trans (hbk.mono hB2.size)
          have hG3 := Nat.lt_of_lt_of_le hG2 hbk.size
          have hL3 := (hbk.block _ (block_lt hL2)).trans hL2
          have hP3 : (v2.alloc (.cells #[.int .i64 0, .int .i64 0, .slice none 0 0] 31)).heap[v2.heap.size]? = some (.cells #[.int .i64 0, .int .i64 0, .slice none 0 0] 31 (0, 0)) := heap_alloc_new v2 (.cells #[.int .i64 0, .int .i64 0, .slice none 0 0] 31)
          have hgP : GG < v2.heap.size := hG2
          have hlLP : BL < v2.heap.size := block_lt hL2
          refine hK.out _ _ hS3 (fun _ => ?_)
          clear hK K
          clear hbk hS2 hE2 hA2 hB2 hG2 hL2
          generalize v2.alloc (.cells #[.int .i64 0, .int .i64 0, .slice none 0 0] 31) = v3 at *
          generalize v2.heap.size = PP at *
          refine wpAnyH_ready (rs := [10]) (by kernel_rfl) (by simp) ?_
          refine AllReadyH.cons rfl (fun K hK => ?_) AllReadyH.nil
          · go_simp
            have hbk : Below v3.heap.size v3 (v3.alloc (.cells #[.int .i64 0] 71)) := (Below.refl _ _).alloc (Nat.le_refl _) _
            have hS4 := range_later hS3 hbk
            have hE4 := (hbk.block _ (block_lt hE3)).trans hE3
            have hA4 := hA3.later rfl hbk
            have hB4 := hB3.trans (hbk.mono hB3.size)
            have hG4 := Nat.lt_of_lt_of_le hG3 hbk.size
            have hL4 := (hbk.block _ (block_lt hL3)).trans hL3
            have hP4 := (hbk.block _ (block_lt hP3)).trans hP3
            have hD4 : (v3.alloc (.cells #[.int .i64 0] 71)).heap[v3.heap.size]? = some (.cells #[.int .i64 0] 71 (0, 0)) := heap_alloc_new v3 (.cells #[.int .i64 0] 71)
            have hgD : GG < v3.heap.size := hG3
            have hlLD : BL < v3.heap.size := block_lt hL3
            have hlPD : PP < v3.heap.size := block_lt hP3
            refine hK.out _ _ hS4 (fun _ => ?_)
            clear hK K
            clear hbk hS3 hE3 hA3 hB3 hG3 hL3 hP3
            generalize v3.alloc (.cells #[.int .i64 0] 71) = v4 at *
            generalize v3.heap.size = DD at *
            have hd1 : PP ≠ BL ∧ PP ≠ DD ∧ BL ≠ DD := by omega
            have hzP0 := cell_of_block hP4 0
            have hzP1 := cell_of_block hP4 1
            have hzP2 := cell_of_block hP4 2
            have hzf := frozen_of_block hP4
            simp at hzP0 hzP1 hzP2
            obtain ⟨hP5, hb5⟩ := puzzle_stored (B := w.heap.size) hP4 (by omega) (.int .i64 W) (.int .i64 H) (.slice none 0 0)
            have hO5 : ∀ b, b ≠ PP → (((v4.setCell ⟨PP, 0, none⟩ (.int .i64 W)).setCell ⟨PP, 1, none⟩ (.int .i64 H)).setCell ⟨PP, 2, none⟩ (.slice none 0 0)).heap[b]? = v4.heap[b]? := fun b hb => (away_setC hb).trans ((away_setC hb).trans (away_setC hb))
            have hS5 := range_heap hS4 (hO5 GG (by omega))
            have hE5 := (hO5 w.heap.size (by omega)).trans hE4
            have hL5 := (hO5 BL (by omega)).trans hL4
            have hD5 := (hO5 DD (by omega)).trans hD4
            have hB5 := hB4.trans hb5
            refine wpAnyH_ready (rs := [11]) (by kernel_rfl) (by simp) ?_
            refine AllReadyH.cons rfl (fun K hK => ?_) AllReadyH.nil
            go_simp
            refine hK.out _ _ hS5 (fun _ => ?_)
            clear hK K
            clear hO5 hb5 hS4 hE4 hA4 hB4 hG4 hP4 hL4 hD4 hzP0 hzP1 hzP2 hzf
            generalize ((v4.setCell ⟨PP, 0, none⟩ (.int .i64 W)).setCell ⟨PP, 1, none⟩ (.int .i64 H)).setCell ⟨PP, 2, none⟩ (.slice none 0 0) = v5 at *
            refine wpAnyH_ready (rs := [12]) (by kernel_rfl) (by simp) ?_
            refine AllReadyH.cons rfl (fun K hK => ?_) AllReadyH.nil
            rw [if_pos (by rfl)]
            refine wp_store_mid 65 _ _ rfl BL 0 (encB (preB W (W * H) cells)).toArray rfl rfl (by rw [encB_size]; exact there24 hL5 rfl) (inf67.trans (by rw [encB_size])) (all_oneCell_toArray (encB_one _)) ?_
            have hL6 : BoxB (v5.setCells BL 0 (encB (preB W (W * H) cells))) BL (preB W (W * H) cells) := ⟨World.rangeAt_setCells_same _ _ 0 _ (by rw [encB_len]; exact there24 hL5 rfl), World.there_setCells (there24 hL5 rfl) BL 0 _⟩
            have hO6 : ∀ b, b ≠ BL → (v5.setCells BL 0 (encB (preB W (W * H) cells))).heap[b]? = v5.heap[b]? := fun b hb => heap_setCells hb _ 0 v5
            have hS6 := range_heap hS5 (hO6 GG (by omega))
            have hE6 := (hO6 w.heap.size (by omega)).trans hE5
            have hP6 := (hO6 PP (by omega)).trans hP5
            have hD6 := (hO6 DD (by omega)).trans hD5
            have hB6 : Below w.heap.size w (v5.setCells BL 0 (encB (preB W (W * H) cells))) := below_setCells _ 0 hB5 (by omega)
            refine hK.out _ _ hS6 (fun _ => ?_)
            clear hK K hO6 hS5 hE5 hP5 hL5 hD5 hB5
            generalize v5.setCells BL 0 (encB (preB W (W * H) cells)) = v6 at *
            have hzD := cell_of_block hD6 0
            have hzg := frozen_of_block hD6 0
            simp at hzD
            refine wpAnyH_ready (rs := [13]) (by kernel_rfl) (by simp) ?_
            refine AllReadyH.cons rfl (fun K hK => ?_) AllReadyH.nil
            go_simp
            have hO7 : ∀ b, b ≠ DD → (v6.setCell ⟨DD, 0, none⟩ (.int .i64 s)).heap[b]? = v6.heap[b]? := fun b hb => away_setC hb
            refine hK.out _ _ (range_heap hS6 (hO7 GG (by omega))) (fun _ => ?_)
            clear hK K
            refine wpAnyH_done (by kernel_rfl) ?_ _
            refine ⟨.pointer (some ⟨GG, 0, none⟩), .int .i64 W, .pointer (some ⟨GG, 1, none⟩), .int .i64 H, .agg #[.int .i64 W, .int .i64 H, .slice none 0 0], .agg #[.int .i64 W, .int .i64 H, .slice a1 cells.length c1, .bool false], .agg (encB (preB W (W * H) cells)).toArray, .int .i64 s, PP, BL, DD, ?_, hd1.1, hd1.2.1, hd1.2.2, by omega, by omega, by omega, (hO7 PP (by omega)).trans hP6, hL6.heap (hO7 BL (by omega)), block_set hD6 0 _, (hO7 w.heap.size (by omega)).trans hE6, hB6.trans ((Below.set 0 _).mono (by omega))⟩
            first | rfl | (simp only [Act.put, List.setIfInBounds_toArray, List.set_cons_zero, List.set_cons_succ]; rfl)
        · go_simp
          have hbk : Below v2.heap.size v2 (v2.alloc (.cells #[.int .i64 0] 71)) := (Below.refl _ _).alloc (Nat.le_refl _) _
          have hS3 := range_later hS2 hbk
          have hE3 := (hbk.block _ (block_lt hE2)).trans hE2
          have hA3 := hA2.later rfl hbk
          have hB3 := hB2.trans (hbk.mono hB2.size)
          have hG3 := Nat.lt_of_lt_of_le hG2 hbk.size
          have hL3 := (hbk.block _ (block_lt hL2)).trans hL2
          have hD3 : (v2.alloc (.cells #[.int .i64 0] 71)).heap[v2.heap.size]? = some (.cells #[.int .i64 0] 71 (0, 0)) := heap_alloc_new v2 (.cells #[.int .i64 0] 71)
          have hgD : GG < v2.heap.size := hG2
          have hlLD : BL < v2.heap.size := block_lt hL2
          refine hK.out _ _ hS3 (fun _ => ?_)
          clear hK K
          clear hbk hS2 hE2 hA2 hB2 hG2 hL2
          generalize v2.alloc (.cells #[.int .i64 0] 71) = v3 at *
          generalize v2.heap.size = DD at *
          refine wpAnyH_ready (rs := [8]) (by kernel_rfl) (by simp) ?_
          refine AllReadyH.cons rfl (fun K hK => ?_) AllReadyH.nil
          · go_simp
            have hbk : Below v3.heap.size v3 (v3.alloc (.cells #[.int .i64 0, .int .i64 0, .slice none 0 0] 31)) := (Below.refl _ _).alloc (Nat.le_refl _) _
            have hS4 := range_later hS3 hbk
            have hE4 := (hbk.block _ (block_lt hE3)).trans hE3
            have hA4 := hA3.later rfl hbk
            have hB4 := hB3.trans (hbk.mono hB3.size)
            have hG4 := Nat.lt_of_lt_of_le hG3 hbk.size
            have hL4 := (hbk.block _ (block_lt hL3)).trans hL3
            have hD4 := (hbk.block _ (block_lt hD3)).trans hD3
            have hP4 : (v3.alloc (.cells #[.int .i64 0, .int .i64 0, .slice none 0 0] 31)).heap[v3.heap.size]? = some (.cells #[.int .i64 0, .int .i64 0, .slice none 0 0] 31 (0, 0)) := heap_alloc_new v3 (.cells #[.int .i64 0, .int .i64 0, .slice none 0 0] 31)
            have hgP : GG < v3.heap.size := hG3
            have hlLP : BL < v3.heap.size := block_lt hL3
            have hlDP : DD < v3.heap.size := block_lt hD3
            refine hK.out _ _ hS4 (fun _ => ?_)
            clear hK K
            clear hbk hS3 hE3 hA3 hB3 hG3 hL3 hD3
            generalize v3.alloc (.cells #[.int .i64 0, .int .i64 0, .slice none 0 0] 31) = v4 at *
            generalize v3.heap.size = PP at *
            have hd1 : PP ≠ BL ∧ PP ≠ DD ∧ BL ≠ DD := by omega
            have hzP0 := cell_of_block hP4 0
            have hzP1 := cell_of_block hP4 1
            have hzP2 := cell_of_block hP4 2
            have hzf := frozen_of_block hP4
            simp at hzP0 hzP1 hzP2
            obtain ⟨hP5, hb5⟩ := puzzle_stored (B := w.heap.size) hP4 (by omega) (.int .i64 W) (.int .i64 H) (.slice none 0 0)
            have hO5 : ∀ b, b ≠ PP → (((v4.setCell ⟨PP, 0, none⟩ (.int .i64 W)).setCell ⟨PP, 1, none⟩ (.int .i64 H)).setCell ⟨PP, 2, none⟩ (.slice none 0 0)).heap[b]? = v4.heap[b]? := fun b hb => (away_setC hb).trans ((away_setC hb).trans (away_setC hb))
            have hS5 := range_heap hS4 (hO5 GG (by omega))
            have hE5 := (hO5 w.heap.size (by omega)).trans hE4
            have hL5 := (hO5 BL (by omega)).trans hL4
            have hD5 := (hO5 DD (by omega)).trans hD4
            have hB5 := hB4.trans hb5
            refine wpAnyH_ready (rs := [11]) (by kernel_rfl) (by simp) ?_
            refine AllReadyH.cons rfl (fun K hK => ?_) AllReadyH.nil
            go_simp
            refine hK.out _ _ hS5 (fun _ => ?_)
            clear hK K
            clear hO5 hb5 hS4 hE4 hA4 hB4 hG4 hP4 hL4 hD4 hzP0 hzP1 hzP2 hzf
            generalize ((v4.setCell ⟨PP, 0, none⟩ (.int .i64 W)).setCell ⟨PP, 1, none⟩ (.int .i64 H)).setCell ⟨PP, 2, none⟩ (.slice none 0 0) = v5 at *
            refine wpAnyH_ready (rs := [12]) (by kernel_rfl) (by simp) ?_
            refine AllReadyH.cons rfl (fun K hK => ?_) AllReadyH.nil
            rw [if_pos (by rfl)]
            refine wp_store_mid 65 _ _ rfl BL 0 (encB (preB W (W * H) cells)).toArray rfl rfl (by rw [encB_size]; exact there24 hL5 rfl) (inf67.trans (by rw [encB_size])) (all_oneCell_toArray (encB_one _)) ?_
            have hL6 : BoxB (v5.setCells BL 0 (encB (preB W (W * H) cells))) BL (preB W (W * H) cells) := ⟨World.rangeAt_setCells_same _ _ 0 _ (by rw [encB_len]; exact there24 hL5 rfl), World.there_setCells (there24 hL5 rfl) BL 0 _⟩
            have hO6 : ∀ b, b ≠ BL → (v5.setCells BL 0 (encB (preB W (W * H) cells))).heap[b]? = v5.heap[b]? := fun b hb => heap_setCells hb _ 0 v5
            have hS6 := range_heap hS5 (hO6 GG (by omega))
            have hE6 := (hO6 w.heap.size (by omega)).trans hE5
            have hP6 := (hO6 PP (by omega)).trans hP5
            have hD6 := (hO6 DD (by omega)).trans hD5
            have hB6 : Below w.heap.size w (v5.setCells BL 0 (encB (preB W (W * H) cells))) := below_setCells _ 0 hB5 (by omega)
            refine hK.out _ _ hS6 (fun _ => ?_)
            clear hK K hO6 hS5 hE5 hP5 hL5 hD5 hB5
            generalize v5.setCells BL 0 (encB (preB W (W * H) cells)) = v6 at *
            have hzD := cell_of_block hD6 0
            have hzg := frozen_of_block hD6 0
            simp at hzD
            refine wpAnyH_ready (rs := [13]) (by kernel_rfl) (by simp) ?_
            refine AllReadyH.cons rfl (fun K hK => ?_) AllReadyH.nil
            go_simp
            have hO7 : ∀ b, b ≠ DD → (v6.setCell ⟨DD, 0, none⟩ (.int .i64 s)).heap[b]? = v6.heap[b]? := fun b hb => away_setC hb
            refine hK.out _ _ (range_heap hS6 (hO7 GG (by omega))) (fun _ => ?_)
            clear hK K
            refine wpAnyH_done (by kernel_rfl) ?_ _
            refine ⟨.pointer (some ⟨GG, 0, none⟩), .int .i64 W, .pointer (some ⟨GG, 1, none⟩), .int .i64 H, .agg #[.int .i64 W, .int .i64 H, .slice none 0 0], .agg #[.int .i64 W, .int .i64 H, .slice a1 cells.length c1, .bool false], .agg (encB (preB W (W * H) cells)).toArray, .int .i64 s, PP, BL, DD, ?_, hd1.1, hd1.2.1, hd1.2.2, by omega, by omega, by omega, (hO7 PP (by omega)).trans hP6, hL6.heap (hO7 BL (by omega)), block_set hD6 0 _, (hO7 w.heap.size (by omega)).trans hE6, hB6.trans ((Below.set 0 _).mono (by omega))⟩
            first | rfl | (simp only [Act.put, List.setIfInBounds_toArray, List.set_cons_zero, List.set_cons_succ]; rfl)
      · go_simp
        have hbk : Below v1.heap.size v1 (v1.alloc (.cells #[.int .i64 0, .int .i64 0, .slice none 0 0] 31)) := (Below.refl _ _).alloc (Nat.le_refl _) _
        have hS2 := range_later hS1 hbk
        have hE2 := (hbk.block _ (block_lt hE1)).trans hE1
        have hA2 := hA1.later rfl hbk
        have hB2 := hB1.trans (hbk.mono hB1.size)
        have hG2 := Nat.lt_of_lt_of_le hG1 hbk.size
        have hL2 := (hbk.block _ (block_lt hL1)).trans hL1
        have hP2 : (v1.alloc (.cells #[.int .i64 0, .int .i64 0, .slice none 0 0] 31)).heap[v1.heap.size]? = some (.cells #[.int .i64 0, .int .i64 0, .slice none 0 0] 31 (0, 0)) := heap_alloc_new v1 (.cells #[.int .i64 0, .int .i64 0, .slice none 0 0] 31)
        have hgP : GG < v1.heap.size := hG1
        have hlLP : BL < v1.heap.size := block_lt hL1
        refine hK.out _ _ hS2 (fun _ => ?_)
        clear hK K
        clear hbk hS1 hE1 hA1 hB1 hG1 hL1
        generalize v1.alloc (.cells #[.int .i64 0, .int .i64 0, .slice none 0 0] 31) = v2 at *
        generalize v1.heap.size = PP at *
        refine wpAnyH_ready (rs := [6, 10]) (by kernel_rfl) (by simp) ?_
        refine AllReadyH.cons rfl (fun K hK => ?_) (AllReadyH.cons rfl (fun K hK => ?_) AllReadyH.nil)
        · go_simp
          refine (HL.out a1 c1 v2 hA2).mono ?_
          rintro e v3 ⟨rfl, hbk⟩
          have hS3 := range_later hS2 hbk
          have hE3 := (hbk.block _ (block_lt hE2)).trans hE2
          have hA3 := hA2.later rfl hbk
          have hB3 := hB2.trans (hbk.mono hB2.size)
          have hG3 := Nat.lt_of_lt_of_le hG2 hbk.size
          have hL3 := (hbk.block _ (block_lt hL2)).trans hL2
          have hP3 := (hbk.block _ (block_lt hP2)).trans hP2
          clear hbk hS2 hE2 hA2 hB2 hG2 hL2 hP2
          go_wp2_with fail
          refine hK.out _ _ hS3 (fun _ => ?_)
          clear hK K
          refine wpAnyH_ready (rs := [10]) (by kernel_rfl) (by simp) ?_
          refine AllReadyH.cons rfl (fun K hK => ?_) AllReadyH.nil
          · go_simp
            have hbk : Below v3.heap.size v3 (v3.alloc (.cells #[.int .i64 0] 71)) := (Below.refl _ _).alloc (Nat.le_refl _) _
            have hS4 := range_later hS3 hbk
            have hE4 := (hbk.block _ (block_lt hE3)).trans hE3
            have hA4 := hA3.later rfl hbk
            have hB4 := hB3.trans (hbk.mono hB3.size)
            have hG4 := Nat.lt_of_lt_of_le hG3 hbk.size
            have hL4 := (hbk.block _ (block_lt hL3)).trans hL3
            have hP4 := (hbk.block _ (block_lt hP3)).trans hP3
            have hD4 : (v3.alloc (.cells #[.int .i64 0] 71)).heap[v3.heap.size]? = some (.cells #[.int .i64 0] 71 (0, 0)) := heap_alloc_new v3 (.cells #[.int .i64 0] 71)
            have hgD : GG < v3.heap.size := hG3
            have hlLD : BL < v3.heap.size := block_lt hL3
            have hlPD : PP < v3.heap.size := block_lt hP3
            refine hK.out _ _ hS4 (fun _ => ?_)
            clear hK K
            clear hbk hS3 hE3 hA3 hB3 hG3 hL3 hP3
            generalize v3.alloc (.cells #[.int .i64 0] 71) = v4 at *
            generalize v3.heap.size = DD at *
            have hd1 : PP ≠ BL ∧ PP ≠ DD ∧ BL ≠ DD := by omega
            have hzP0 := cell_of_block hP4 0
            have hzP1 := cell_of_block hP4 1
            have hzP2 := cell_of_block hP4 2
            have hzf := frozen_of_block hP4
            simp at hzP0 hzP1 hzP2
            obtain ⟨hP5, hb5⟩ := puzzle_stored (B := w.heap.size) hP4 (by omega) (.int .i64 W) (.int .i64 H) (.slice none 0 0)
            have hO5 : ∀ b, b ≠ PP → (((v4.setCell ⟨PP, 0, none⟩ (.int .i64 W)).setCell ⟨PP, 1, none⟩ (.int .i64 H)).setCell ⟨PP, 2, none⟩ (.slice none 0 0)).heap[b]? = v4.heap[b]? := fun b hb => (away_setC hb).trans ((away_setC hb).trans (away_setC hb))
            have hS5 := range_heap hS4 (hO5 GG (by omega))
            have hE5 := (hO5 w.heap.size (by omega)).trans hE4
            have hL5 := (hO5 BL (by omega)).trans hL4
            have hD5 := (hO5 DD (by omega)).trans hD4
            have hB5 := hB4.trans hb5
            refine wpAnyH_ready (rs := [11]) (by kernel_rfl) (by simp) ?_
            refine AllReadyH.cons rfl (fun K hK => ?_) AllReadyH.nil
            go_simp
            refine hK.out _ _ hS5 (fun _ => ?_)
            clear hK K
            clear hO5 hb5 hS4 hE4 hA4 hB4 hG4 hP4 hL4 hD4 hzP0 hzP1 hzP2 hzf
            generalize ((v4.setCell ⟨PP, 0, none⟩ (.int .i64 W)).setCell ⟨PP, 1, none⟩ (.int .i64 H)).setCell ⟨PP, 2, none⟩ (.slice none 0 0) = v5 at *
            refine wpAnyH_ready (rs := [12]) (by kernel_rfl) (by simp) ?_
            refine AllReadyH.cons rfl (fun K hK => ?_) AllReadyH.nil
            rw [if_pos (by rfl)]
            refine wp_store_mid 65 _ _ rfl BL 0 (encB (preB W (W * H) cells)).toArray rfl rfl (by rw [encB_size]; exact there24 hL5 rfl) (inf67.trans (by rw [encB_size])) (all_oneCell_toArray (encB_one _)) ?_
            have hL6 : BoxB (v5.setCells BL 0 (encB (preB W (W * H) cells))) BL (preB W (W * H) cells) := ⟨World.rangeAt_setCells_same _ _ 0 _ (by rw [encB_len]; exact there24 hL5 rfl), World.there_setCells (there24 hL5 rfl) BL 0 _⟩
            have hO6 : ∀ b, b ≠ BL → (v5.setCells BL 0 (encB (preB W (W * H) cells))).heap[b]? = v5.heap[b]? := fun b hb => heap_setCells hb _ 0 v5
            have hS6 := range_heap hS5 (hO6 GG (by omega))
            have hE6 := (hO6 w.heap.size (by omega)).trans hE5
            have hP6 := (hO6 PP (by omega)).trans hP5
            have hD6 := (hO6 DD (by omega)).trans hD5
            have hB6 : Below w.heap.size w (v5.setCells BL 0 (encB (preB W (W * H) cells))) := below_setCells _ 0 hB5 (by omega)
            refine hK.out _ _ hS6 (fun _ => ?_)
            clear hK K hO6 hS5 hE5 hP5 hL5 hD5 hB5
            generalize v5.setCells BL 0 (encB (preB W (W * H) cells)) = v6 at *
            have hzD := cell_of_block hD6 0
            have hzg := frozen_of_block hD6 0
            simp at hzD
            refine wpAnyH_ready (rs := [13]) (by kernel_rfl) (by simp) ?_
            refine AllReadyH.cons rfl (fun K hK => ?_) AllReadyH.nil
            go_simp
            have hO7 : ∀ b, b ≠ DD → (v6.setCell ⟨DD, 0, none⟩ (.int .i64 s)).heap[b]? = v6.heap[b]? := fun b hb => away_setC hb
            refine hK.out _ _ (range_heap hS6 (hO7 GG (by omega))) (fun _ => ?_)
            clear hK K
            refine wpAnyH_done (by kernel_rfl) ?_ _
            refine ⟨.pointer (some ⟨GG, 0, none⟩), .int .i64 W, .pointer (some ⟨GG, 1, none⟩), .int .i64 H, .agg #[.int .i64 W, .int .i64 H, .slice none 0 0], .agg #[.int .i64 W, .int .i64 H, .slice a1 cells.length c1, .bool false], .agg (encB (preB W (W * H) cells)).toArray, .int .i64 s, PP, BL, DD, ?_, hd1.1, hd1.2.1, hd1.2.2, by omega, by omega, by omega, (hO7 PP (by omega)).trans hP6, hL6.heap (hO7 BL (by omega)), block_set hD6 0 _, (hO7 w.heap.size (by omega)).trans hE6, hB6.trans ((Below.set 0 _).mono (by omega))⟩
            first | rfl | (simp only [Act.put, List.setIfInBounds_toArray, List.set_cons_zero, List.set_cons_succ]; rfl)
        · go_simp
          have hbk : Below v2.heap.size v2 (v2.alloc (.cells #[.int .i64 0] 71)) := (Below.refl _ _).alloc (Nat.le_refl _) _
          have hS3 := range_later hS2 hbk
          have hE3 := (hbk.block _ (block_lt hE2)).trans hE2
          have hA3 := hA2.later rfl hbk
          have hB3 := hB2.trans (hbk.mono hB2.size)
          have hG3 := Nat.lt_of_lt_of_le hG2 hbk.size
          have hL3 := (hbk.block _ (block_lt hL2)).trans hL2
          have hP3 := (hbk.block _ (block_lt hP2)).trans hP2
          have hD3 : (v2.alloc (.cells #[.int .i64 0] 71)).heap[v2.heap.size]? = some (.cells #[.int .i64 0] 71 (0, 0)) := heap_alloc_new v2 (.cells #[.int .i64 0] 71)
          have hgD : GG < v2.heap.size := hG2
          have hlLD : BL < v2.heap.size := block_lt hL2
          have hlPD : PP < v2.heap.size := block_lt hP2
          refine hK.out _ _ hS3 (fun _ => ?_)
          clear hK K
          clear hbk hS2 hE2 hA2 hB2 hG2 hL2 hP2
          generalize v2.alloc (.cells #[.int .i64 0] 71) = v3 at *
          generalize v2.heap.size = DD at *
          refine wpAnyH_ready (rs := [6]) (by kernel_rfl) (by simp) ?_
          refine AllReadyH.cons rfl (fun K hK => ?_) AllReadyH.nil
          · go_simp
            refine (HL.out a1 c1 v3 hA3).mono ?_
            rintro e v4 ⟨rfl, hbk⟩
            have hS4 := range_later hS3 hbk
            have hE4 := (hbk.block _ (block_lt hE3)).trans hE3
            have hA4 := hA3.later rfl hbk
            have hB4 := hB3.trans (hbk.mono hB3.size)
            have hG4 := Nat.lt_of_lt_of_le hG3 hbk.size
            have hL4 := (hbk.block _ (block_lt hL3)).trans hL3
            have hP4 := (hbk.block _ (block_lt hP3)).trans hP3
            have hD4 := (hbk.block _ (block_lt hD3)).trans hD3
            clear hbk hS3 hE3 hA3 hB3 hG3 hL3 hP3 hD3
            go_wp2_with fail
            refine hK.out _ _ hS4 (fun _ => ?_)
            clear hK K
            have hd1 : PP ≠ BL ∧ PP ≠ DD ∧ BL ≠ DD := by omega
            have hzP0 := cell_of_block hP4 0
            have hzP1 := cell_of_block hP4 1
            have hzP2 := cell_of_block hP4 2
            have hzf := frozen_of_block hP4
            simp at hzP0 hzP1 hzP2
            obtain ⟨hP5, hb5⟩ := puzzle_stored (B := w.heap.size) hP4 (by omega) (.int .i64 W) (.int .i64 H) (.slice none 0 0)
            have hO5 : ∀ b, b ≠ PP → (((v4.setCell ⟨PP, 0, none⟩ (.int .i64 W)).setCell ⟨PP, 1, none⟩ (.int .i64 H)).setCell ⟨PP, 2, none⟩ (.slice none 0 0)).heap[b]? = v4.heap[b]? := fun b hb => (away_setC hb).trans ((away_setC hb).trans (away_setC hb))
            have hS5 := range_heap hS4 (hO5 GG (by omega))
            have hE5 := (hO5 w.heap.size (by omega)).trans hE4
            have hL5 := (hO5 BL (by omega)).trans hL4
            have hD5 := (hO5 DD (by omega)).trans hD4
            have hB5 := hB4.trans hb5
            refine wpAnyH_ready (rs := [11]) (by kernel_rfl) (by simp) ?_
            refine AllReadyH.cons rfl (fun K hK => ?_) AllReadyH.nil
            go_simp
            refine hK.out _ _ hS5 (fun _ => ?_)
            clear hK K
            clear hO5 hb5 hS4 hE4 hA4 hB4 hG4 hP4 hL4 hD4 hzP0 hzP1 hzP2 hzf
            generalize ((v4.setCell ⟨PP, 0, none⟩ (.int .i64 W)).setCell ⟨PP, 1, none⟩ (.int .i64 H)).setCell ⟨PP, 2, none⟩ (.slice none 0 0) = v5 at *
            refine wpAnyH_ready (rs := [12]) (by kernel_rfl) (by simp) ?_
            refine AllReadyH.cons rfl (fun K hK => ?_) AllReadyH.nil
            rw [if_pos (by rfl)]
            refine wp_store_mid 65 _ _ rfl BL 0 (encB (preB W (W * H) cells)).toArray rfl rfl (by rw [encB_size]; exact there24 hL5 rfl) (inf67.trans (by rw [encB_size])) (all_oneCell_toArray (encB_one _)) ?_
            have hL6 : BoxB (v5.setCells BL 0 (encB (preB W (W * H) cells))) BL (preB W (W * H) cells) := ⟨World.rangeAt_setCells_same _ _ 0 _ (by rw [encB_len]; exact there24 hL5 rfl), World.there_setCells (there24 hL5 rfl) BL 0 _⟩
            have hO6 : ∀ b, b ≠ BL → (v5.setCells BL 0 (encB (preB W (W * H) cells))).heap[b]? = v5.heap[b]? := fun b hb => heap_setCells hb _ 0 v5
            have hS6 := range_heap hS5 (hO6 GG (by omega))
            have hE6 := (hO6 w.heap.size (by omega)).trans hE5
            have hP6 := (hO6 PP (by omega)).trans hP5
            have hD6 := (hO6 DD (by omega)).trans hD5
            have hB6 : Below w.heap.size w (v5.setCells BL 0 (encB (preB W (W * H) cells))) := below_setCells _ 0 hB5 (by omega)
            refine hK.out _ _ hS6 (fun _ => ?_)
            clear hK K hO6 hS5 hE5 hP5 hL5 hD5 hB5
            generalize v5.setCells BL 0 (encB (preB W (W * H) cells)) = v6 at *
            have hzD := cell_of_block hD6 0
            have hzg := frozen_of_block hD6 0
            simp at hzD
            refine wpAnyH_ready (rs := [13]) (by kernel_rfl) (by simp) ?_
            refine AllReadyH.cons rfl (fun K hK => ?_) AllReadyH.nil
            go_simp
            have hO7 : ∀ b, b ≠ DD → (v6.setCell ⟨DD, 0, none⟩ (.int .i64 s)).heap[b]? = v6.heap[b]? := fun b hb => away_setC hb
            refine hK.out _ _ (range_heap hS6 (hO7 GG (by omega))) (fun _ => ?_)
            clear hK K
            refine wpAnyH_done (by kernel_rfl) ?_ _
            refine ⟨.pointer (some ⟨GG, 0, none⟩), .int .i64 W, .pointer (some ⟨GG, 1, none⟩), .int .i64 H, .agg #[.int .i64 W, .int .i64 H, .slice none 0 0], .agg #[.int .i64 W, .int .i64 H, .slice a1 cells.length c1, .bool false], .agg (encB (preB W (W * H) cells)).toArray, .int .i64 s, PP, BL, DD, ?_, hd1.1, hd1.2.1, hd1.2.2, by omega, by omega, by omega, (hO7 PP (by omega)).trans hP6, hL6.heap (hO7 BL (by omega)), block_set hD6 0 _, (hO7 w.heap.size (by omega)).trans hE6, hB6.trans ((Below.set 0 _).mono (by omega))⟩
            first | rfl | (simp only [Act.put, List.setIfInBounds_toArray, List.set_cons_zero, List.set_cons_succ]; rfl)
      · go_simp
        have hbk : Below v1.heap.size v1 (v1.alloc (.cells #[.int .i64 0] 71)) := (Below.refl _ _).alloc (Nat.le_refl _) _
        have hS2 := range_later hS1 hbk
        have hE2 := (hbk.block _ (block_lt hE1)).trans hE1
        have hA2 := hA1.later rfl hbk
        have hB2 := hB1.trans (hbk.mono hB1.size)
        have hG2 := Nat.lt_of_lt_of_le hG1 hbk.size
        have hL2 := (hbk.block _ (block_lt hL1)).trans hL1
        have hD2 : (v1.alloc (.cells #[.int .i64 0] 71)).heap[v1.heap.size]? = some (.cells #[.int .i64 0] 71 (0, 0)) := heap_alloc_new v1 (.cells #[.int .i64 0] 71)
        have hgD : GG < v1.heap.size := hG1
        have hlLD : BL < v1.heap.size := block_lt hL1
        refine hK.out _ _ hS2 (fun _ => ?_)
        clear hK K
        clear hbk hS1 hE1 hA1 hB1 hG1 hL1
        generalize v1.alloc (.cells #[.int .i64 0] 71) = v2 at *
        generalize v1.heap.size = DD at *
        refine wpAnyH_ready (rs := [6, 8]) (by kernel_rfl) (by simp) ?_
        refine AllReadyH.cons rfl (fun K hK => ?_) (AllReadyH.cons rfl (fun K hK => ?_) AllReadyH.nil)
        · go_simp
          refine (HL.out a1 c1 v2 hA2).mono ?_
          rintro e v3 ⟨rfl, hbk⟩
          have hS3 := range_later hS2 hbk
          have hE3 := (hbk.block _ (block_lt hE2)).trans hE2
          have hA3 := hA2.later rfl hbk
          have hB3 := hB2.trans (hbk.mono hB2.size)
          have hG3 := Nat.lt_of_lt_of_le hG2 hbk.size
          have hL3 := (hbk.block _ (block_lt hL2)).trans hL2
          have hD3 := (hbk.block _ (block_lt hD2)).trans hD2
          clear hbk hS2 hE2 hA2 hB2 hG2 hL2 hD2
          go_wp2_with fail
          refine hK.out _ _ hS3 (fun _ => ?_)
          clear hK K
          refine wpAnyH_ready (rs := [8]) (by kernel_rfl) (by simp) ?_
          refine AllReadyH.cons rfl (fun K hK => ?_) AllReadyH.nil
          · go_simp
            have hbk : Below v3.heap.size v3 (v3.alloc (.cells #[.int .i64 0, .int .i64 0, .slice none 0 0] 31)) := (Below.refl _ _).alloc (Nat.le_refl _) _
            have hS4 := range_later hS3 hbk
            have hE4 := (hbk.block _ (block_lt hE3)).trans hE3
            have hA4 := hA3.later rfl hbk
            have hB4 := hB3.trans (hbk.mono hB3.size)
            have hG4 := Nat.lt_of_lt_of_le hG3 hbk.size
            have hL4 := (hbk.block _ (block_lt hL3)).trans hL3
            have hD4 := (hbk.block _ (block_lt hD3)).trans hD3
            have hP4 : (v3.alloc (.cells #[.int .i64 0, .int .i64 0, .slice none 0 0] 31)).heap[v3.heap.size]? = some (.cells #[.int .i64 0, .int .i64 0, .slice none 0 0] 31 (0, 0)) := heap_alloc_new v3 (.cells #[.int .i64 0, .int .i64 0, .slice none 0 0] 31)
            have hgP : GG < v3.heap.size := hG3
            have hlLP : BL < v3.heap.size := block_lt hL3
            have hlDP : DD < v3.heap.size := block_lt hD3
            refine hK.out _ _ hS4 (fun _ => ?_)
            clear hK K
            clear hbk hS3 hE3 hA3 hB3 hG3 hL3 hD3
            generalize v3.alloc (.cells #[.int .i64 0, .int .i64 0, .slice none 0 0] 31) = v4 at *
            generalize v3.heap.size = PP at *
            have hd1 : PP ≠ BL ∧ PP ≠ DD ∧ BL ≠ DD := by omega
            have hzP0 := cell_of_block hP4 0
            have hzP1 := cell_of_block hP4 1
            have hzP2 := cell_of_block hP4 2
            have hzf := frozen_of_block hP4
            simp at hzP0 hzP1 hzP2
            obtain ⟨hP5, hb5⟩ := puzzle_stored (B := w.heap.size) hP4 (by omega) (.int .i64 W) (.int .i64 H) (.slice none 0 0)
            have hO5 : ∀ b, b ≠ PP → (((v4.setCell ⟨PP, 0, none⟩ (.int .i64 W)).setCell ⟨PP, 1, none⟩ (.int .i64 H)).setCell ⟨PP, 2, none⟩ (.slice none 0 0)).heap[b]? = v4.heap[b]? := fun b hb => (away_setC hb).trans ((away_setC hb).trans (away_setC hb))
            have hS5 := range_heap hS4 (hO5 GG (by omega))
            have hE5 := (hO5 w.heap.size (by omega)).trans hE4
            have hL5 := (hO5 BL (by omega)).trans hL4
            have hD5 := (hO5 DD (by omega)).trans hD4
            have hB5 := hB4.trans hb5
            refine wpAnyH_ready (rs := [11]) (by kernel_rfl) (by simp) ?_
            refine AllReadyH.cons rfl (fun K hK => ?_) AllReadyH.nil
            go_simp
            refine hK.out _ _ hS5 (fun _ => ?_)
            clear hK K
            clear hO5 hb5 hS4 hE4 hA4 hB4 hG4 hP4 hL4 hD4 hzP0 hzP1 hzP2 hzf
            generalize ((v4.setCell ⟨PP, 0, none⟩ (.int .i64 W)).setCell ⟨PP, 1, none⟩ (.int .i64 H)).setCell ⟨PP, 2, none⟩ (.slice none 0 0) = v5 at *
            refine wpAnyH_ready (rs := [12]) (by kernel_rfl) (by simp) ?_
            refine AllReadyH.cons rfl (fun K hK => ?_) AllReadyH.nil
            rw [if_pos (by rfl)]
            refine wp_store_mid 65 _ _ rfl BL 0 (encB (preB W (W * H) cells)).toArray rfl rfl (by rw [encB_size]; exact there24 hL5 rfl) (inf67.trans (by rw [encB_size])) (all_oneCell_toArray (encB_one _)) ?_
            have hL6 : BoxB (v5.setCells BL 0 (encB (preB W (W * H) cells))) BL (preB W (W * H) cells) := ⟨World.rangeAt_setCells_same _ _ 0 _ (by rw [encB_len]; exact there24 hL5 rfl), World.there_setCells (there24 hL5 rfl) BL 0 _⟩
            have hO6 : ∀ b, b ≠ BL → (v5.setCells BL 0 (encB (preB W (W * H) cells))).heap[b]? = v5.heap[b]? := fun b hb => heap_setCells hb _ 0 v5
            have hS6 := range_heap hS5 (hO6 GG (by omega))
            have hE6 := (hO6 w.heap.size (by omega)).trans hE5
            have hP6 := (hO6 PP (by omega)).trans hP5
            have hD6 := (hO6 DD (by omega)).trans hD5
            have hB6 : Below w.heap.size w (v5.setCells BL 0 (encB (preB W (W * H) cells))) := below_setCells _ 0 hB5 (by omega)
            refine hK.out _ _ hS6 (fun _ => ?_)
            clear hK K hO6 hS5 hE5 hP5 hL5 hD5 hB5
            generalize v5.setCells BL 0 (encB (preB W (W * H) cells)) = v6 at *
            have hzD := cell_of_block hD6 0
            have hzg := frozen_of_block hD6 0
            simp at hzD
            refine wpAnyH_ready (rs := [13]) (by kernel_rfl) (by simp) ?_
            refine AllReadyH.cons rfl (fun K hK => ?_) AllReadyH.nil
            go_simp
            have hO7 : ∀ b, b ≠ DD → (v6.setCell ⟨DD, 0, none⟩ (.int .i64 s)).heap[b]? = v6.heap[b]? := fun b hb => away_setC hb
            refine hK.out _ _ (range_heap hS6 (hO7 GG (by omega))) (fun _ => ?_)
            clear hK K
            refine wpAnyH_done (by kernel_rfl) ?_ _
            refine ⟨.pointer (some ⟨GG, 0, none⟩), .int .i64 W, .pointer (some ⟨GG, 1, none⟩), .int .i64 H, .agg #[.int .i64 W, .int .i64 H, .slice none 0 0], .agg #[.int .i64 W, .int .i64 H, .slice a1 cells.length c1, .bool false], .agg (encB (preB W (W * H) cells)).toArray, .int .i64 s, PP, BL, DD, ?_, hd1.1, hd1.2.1, hd1.2.2, by omega, by omega, by omega, (hO7 PP (by omega)).trans hP6, hL6.heap (hO7 BL (by omega)), block_set hD6 0 _, (hO7 w.heap.size (by omega)).trans hE6, hB6.trans ((Below.set 0 _).mono (by omega))⟩
            first | rfl | (simp only [Act.put, List.setIfInBounds_toArray, List.set_cons_zero, List.set_cons_succ]; rfl)
        · go_simp
          have hbk : Below v2.heap.size v2 (v2.alloc (.cells #[.int .i64 0, .int .i64 0, .slice none 0 0] 31)) := (Below.refl _ _).alloc (Nat.le_refl _) _
          have hS3 := range_later hS2 hbk
          have hE3 := (hbk.block _ (block_lt hE2)).trans hE2
          have hA3 := hA2.later rfl hbk
          have hB3 := hB2.trans (hbk.mono hB2.size)
          have hG3 := Nat.lt_of_lt_of_le hG2 hbk.size
          have hL3 := (hbk.block _ (block_lt hL2)).trans hL2
          have hD3 := (hbk.block _ (block_lt hD2)).trans hD2
          have hP3 : (v2.alloc (.cells #[.int .i64 0, .int .i64 0, .slice none 0 0] 31)).heap[v2.heap.size]? = some (.cells #[.int .i64 0, .int .i64 0, .slice none 0 0] 31 (0, 0)) := heap_alloc_new v2 (.cells #[.int .i64 0, .int .i64 0, .slice none 0 0] 31)
          have hgP : GG < v2.heap.size := hG2
          have hlLP : BL < v2.heap.size := block_lt hL2
          have hlDP : DD < v2.heap.size := block_lt hD2
          refine hK.out _ _ hS3 (fun _ => ?_)
          clear hK K
          clear hbk hS2 hE2 hA2 hB2 hG2 hL2 hD2
          generalize v2.alloc (.cells #[.int .i64 0, .int .i64 0, .slice none 0 0] 31) = v3 at *
          generalize v2.heap.size = PP at *
          refine wpAnyH_ready (rs := [6]) (by kernel_rfl) (by simp) ?_
          refine AllReadyH.cons rfl (fun K hK => ?_) AllReadyH.nil
          · go_simp
            refine (HL.out a1 c1 v3 hA3).mono ?_
            rintro e v4 ⟨rfl, hbk⟩
            have hS4 := range_later hS3 hbk
            have hE4 := (hbk.block _ (block_lt hE3)).trans hE3
            have hA4 := hA3.later rfl hbk
            have hB4 := hB3.trans (hbk.mono hB3.size)
            have hG4 := Nat.lt_of_lt_of_le hG3 hbk.size
            have hL4 := (hbk.block _ (block_lt hL3)).trans hL3
            have hD4 := (hbk.block _ (block_lt hD3)).trans hD3
            have hP4 := (hbk.block _ (block_lt hP3)).trans hP3
            clear hbk hS3 hE3 hA3 hB3 hG3 hL3 hD3 hP3
            go_wp2_with fail
            refine hK.out _ _ hS4 (fun _ => ?_)
            clear hK K
            have hd1 : PP ≠ BL ∧ PP ≠ DD ∧ BL ≠ DD := by omega
            have hzP0 := cell_of_block hP4 0
            have hzP1 := cell_of_block hP4 1
            have hzP2 := cell_of_block hP4 2
            have hzf := frozen_of_block hP4
            simp at hzP0 hzP1 hzP2
            obtain ⟨hP5, hb5⟩ := puzzle_stored (B := w.heap.size) hP4 (by omega) (.int .i64 W) (.int .i64 H) (.slice none 0 0)
            have hO5 : ∀ b, b ≠ PP → (((v4.setCell ⟨PP, 0, none⟩ (.int .i64 W)).setCell ⟨PP, 1, none⟩ (.int .i64 H)).setCell ⟨PP, 2, none⟩ (.slice none 0 0)).heap[b]? = v4.heap[b]? := fun b hb => (away_setC hb).trans ((away_setC hb).trans (away_setC hb))
            have hS5 := range_heap hS4 (hO5 GG (by omega))
            have hE5 := (hO5 w.heap.size (by omega)).trans hE4
            have hL5 := (hO5 BL (by omega)).trans hL4
            have hD5 := (hO5 DD (by omega)).trans hD4
            have hB5 := hB4.trans hb5
            refine wpAnyH_ready (rs := [11]) (by kernel_rfl) (by simp) ?_
            refine AllReadyH.cons rfl (fun K hK => ?_) AllReadyH.nil
            go_simp
            refine hK.out _ _ hS5 (fun _ => ?_)
            clear hK K
            clear hO5 hb5 hS4 hE4 hA4 hB4 hG4 hP4 hL4 hD4 hzP0 hzP1 hzP2 hzf
            generalize ((v4.setCell ⟨PP, 0, none⟩ (.int .i64 W)).setCell ⟨PP, 1, none⟩ (.int .i64 H)).setCell ⟨PP, 2, none⟩ (.slice none 0 0) = v5 at *
            refine wpAnyH_ready (rs := [12]) (by kernel_rfl) (by simp) ?_
            refine AllReadyH.cons rfl (fun K hK => ?_) AllReadyH.nil
            rw [if_pos (by rfl)]
            refine wp_store_mid 65 _ _ rfl BL 0 (encB (preB W (W * H) cells)).toArray rfl rfl (by rw [encB_size]; exact there24 hL5 rfl) (inf67.trans (by rw [encB_size])) (all_oneCell_toArray (encB_one _)) ?_
            have hL6 : BoxB (v5.setCells BL 0 (encB (preB W (W * H) cells))) BL (preB W (W * H) cells) := ⟨World.rangeAt_setCells_same _ _ 0 _ (by rw [encB_len]; exact there24 hL5 rfl), World.there_setCells (there24 hL5 rfl) BL 0 _⟩
            have hO6 : ∀ b, b ≠ BL → (v5.setCells BL 0 (encB (preB W (W * H) cells))).heap[b]? = v5.heap[b]? := fun b hb => heap_setCells hb _ 0 v5
            have hS6 := range_heap hS5 (hO6 GG (by omega))
            have hE6 := (hO6 w.heap.size (by omega)).trans hE5
            have hP6 := (hO6 PP (by omega)).trans hP5
            have hD6 := (hO6 DD (by omega)).trans hD5
            have hB6 : Below w.heap.size w (v5.setCells BL 0 (encB (preB W (W * H) cells))) := below_setCells _ 0 hB5 (by omega)
            refine hK.out _ _ hS6 (fun _ => ?_)
            clear hK K hO6 hS5 hE5 hP5 hL5 hD5 hB5
            generalize v5.setCells BL 0 (encB (preB W (W * H) cells)) = v6 at *
            have hzD := cell_of_block hD6 0
            have hzg := frozen_of_block hD6 0
            simp at hzD
            refine wpAnyH_ready (rs := [13]) (by kernel_rfl) (by simp) ?_
            refine AllReadyH.cons rfl (fun K hK => ?_) AllReadyH.nil
            go_simp
            have hO7 : ∀ b, b ≠ DD → (v6.setCell ⟨DD, 0, none⟩ (.int .i64 s)).heap[b]? = v6.heap[b]? := fun b hb => away_setC hb
            refine hK.out _ _ (range_heap hS6 (hO7 GG (by omega))) (fun _ => ?_)
            clear hK K
            refine wpAnyH_done (by kernel_rfl) ?_ _
            refine ⟨.pointer (some ⟨GG, 0, none⟩), .int .i64 W, .pointer (some ⟨GG, 1, none⟩), .int .i64 H, .agg #[.int .i64 W, .int .i64 H, .slice none 0 0], .agg #[.int .i64 W, .int .i64 H, .slice a1 cells.length c1, .bool false], .agg (encB (preB W (W * H) cells)).toArray, .int .i64 s, PP, BL, DD, ?_, hd1.1, hd1.2.1, hd1.2.2, by omega, by omega, by omega, (hO7 PP (by omega)).trans hP6, hL6.heap (hO7 BL (by omega)), block_set hD6 0 _, (hO7 w.heap.size (by omega)).trans hE6, hB6.trans ((Below.set 0 _).mono (by omega))⟩
            first | rfl | (simp only [Act.put, List.setIfInBounds_toArray, List.set_cons_zero, List.set_cons_succ]; rfl)
    · go_simp
      have hbk : Below v0.heap.size v0 (v0.alloc (.cells #[.int .i64 0] 71)) := (Below.refl _ _).alloc (Nat.le_refl _) _
      have hS1 := range_later hSd hbk
      have hE1 := (hbk.block _ (block_lt hEd)).trans hEd
      have hA1 := hAd.later rfl hbk
      have hB1 := hBd.trans (hbk.mono hBd.size)
      have hG1 := Nat.lt_of_lt_of_le hGd hbk.size
      have hD1 : (v0.alloc (.cells #[.int .i64 0] 71)).heap[v0.heap.size]? = some (.cells #[.int .i64 0] 71 (0, 0)) := heap_alloc_new v0 (.cells #[.int .i64 0] 71)
      have hgD : GG < v0.heap.size := hGd
      refine hK.out _ _ hS1 (fun _ => ?_)
      clear hK K
      clear hbk hSd hEd hAd hBd hGd
      generalize v0.alloc (.cells #[.int .i64 0] 71) = v1 at *
      generalize v0.heap.size = DD at *
      refine wpAnyH_ready (rs := [6, 8, 9]) (by kernel_rfl) (by simp) ?_
      refine AllReadyH.cons rfl (fun K hK => ?_) (AllReadyH.cons rfl (fun K hK => ?_) (AllReadyH.cons rfl (fun K hK => ?_) AllReadyH.nil))
      · go_simp
        refine (HL.out a1 c1 v1 hA1).mono ?_
        rintro e v2 ⟨rfl, hbk⟩
        have hS2 := range_later hS1 hbk
        have hE2 := (hbk.block _ (block_lt hE1)).trans hE1
        have hA2 := hA1.later rfl hbk
        have hB2 := hB1.trans (hbk.mono hB1.size)
        have hG2 := Nat.lt_of_lt_of_le hG1 hbk.size
        have hD2 := (hbk.block _ (block_lt hD1)).trans hD1
        clear hbk hS1 hE1 hA1 hB1 hG1 hD1
        go_wp2_with fail
        refine hK.out _ _ hS2 (fun _ => ?_)
        clear hK K
        refine wpAnyH_ready (rs := [8, 9]) (by kernel_rfl) (by simp) ?_
        refine AllReadyH.cons rfl (fun K hK => ?_) (AllReadyH.cons rfl (fun K hK => ?_) AllReadyH.nil)
        · go_simp
          have hbk : Below v2.heap.size v2 (v2.alloc (.cells #[.int .i64 0, .int .i64 0, .slice none 0 0] 31)) := (Below.refl _ _).alloc (Nat.le_refl _) _
          have hS3 := range_later hS2 hbk
          have hE3 := (hbk.block _ (block_lt hE2)).trans hE2
          have hA3 := hA2.later rfl hbk
          have hB3 := hB2.trans (hbk.mono hB2.size)
          have hG3 := Nat.lt_of_lt_of_le hG2 hbk.size
          have hD3 := (hbk.block _ (block_lt hD2)).trans hD2
          have hP3 : (v2.alloc (.cells #[.int .i64 0, .int .i64 0, .slice none 0 0] 31)).heap[v2.heap.size]? = some (.cells #[.int .i64 0, .int .i64 0, .slice none 0 0] 31 (0, 0)) := heap_alloc_new v2 (.cells #[.int .i64 0, .int .i64 0, .slice none 0 0] 31)
          have hgP : GG < v2.heap.size := hG2
          have hlDP : DD < v2.heap.size := block_lt hD2
          refine hK.out _ _ hS3 (fun _ => ?_)
          clear hK K
          clear hbk hS2 hE2 hA2 hB2 hG2 hD2
          generalize v2.alloc (.cells #[.int .i64 0, .int .i64 0, .slice none 0 0] 31) = v3 at *
          generalize v2.heap.size = PP at *
          refine wpAnyH_ready (rs := [9]) (by kernel_rfl) (by simp) ?_
          refine AllReadyH.cons rfl (fun K hK => ?_) AllReadyH.nil
          · go_simp
            have hbk : Below v3.heap.size v3 (v3.alloc (.cells #[.int .u8 0, .int .u8 0, .int .u8 0, .int .u8 0, .int .u8 0, .int .u8 0, .int .u8 0, .int .u8 0, .int .u8 0, .int .u8 0, .int .u8 0, .int .u8 0, .int .u8 0, .int .u8 0, .int .u8 0, .int .u8 0, .int .u8 0, .int .u8 0, .int .u8 0, .int .u8 0, .int .u8 0, .int .u8 0, .int .u8 0, .int .u8 0] 65)) := (Below.refl _ _).alloc (Nat.le_refl _) _
            have hS4 := range_later hS3 hbk
            have hE4 := (hbk.block _ (block_lt hE3)).trans hE3
            have hA4 := hA3.later rfl hbk
            have hB4 := hB3.trans (hbk.mono hB3.size)
            have hG4 := Nat.lt_of_lt_of_le hG3 hbk.size
            have hD4 := (hbk.block _ (block_lt hD3)).trans hD3
            have hP4 := (hbk.block _ (block_lt hP3)).trans hP3
            have hL4 : (v3.alloc (.cells #[.int .u8 0, .int .u8 0, .int .u8 0, .int .u8 0, .int .u8 0, .int .u8 0, .int .u8 0, .int .u8 0, .int .u8 0, .int .u8 0, .int .u8 0, .int .u8 0, .int .u8 0, .int .u8 0, .int .u8 0, .int .u8 0, .int .u8 0, .int .u8 0, .int .u8 0, .int .u8 0, .int .u8 0, .int .u8 0, .int .u8 0, .int .u8 0] 65)).heap[v3.heap.size]? = some (.cells zer 65 (0, 0)) := heap_alloc_new v3 (.cells #[.int .u8 0, .int .u8 0, .int .u8 0, .int .u8 0, .int .u8 0, .int .u8 0, .int .u8 0, .int .u8 0, .int .u8 0, .int .u8 0, .int .u8 0, .int .u8 0, .int .u8 0, .int .u8 0, .int .u8 0, .int .u8 0, .int .u8 0, .int .u8 0, .int .u8 0, .int .u8 0, .int .u8 0, .int .u8 0, .int .u8 0, .int .u8 0] 65)
            have hgL : GG < v3.heap.size := hG3
            have hlDL : DD < v3.heap.size := block_lt hD3
            have hlPL : PP < v3.heap.size := block_lt hP3
            refine hK.out _ _ hS4 (fun _ => ?_)
            clear hK K
            clear hbk hS3 hE3 hA3 hB3 hG3 hD3 hP3
            generalize v3.alloc (.cells #[.int .u8 0, .int .u8 0, .int .u8 0, .int .u8 0, .int .u8 0, .int .u8 0, .int .u8 0, .int .u8 0, .int .u8 0, .int .u8 0, .int .u8 0, .int .u8 0, .int .u8 0, .int .u8 0, .int .u8 0, .int .u8 0, .int .u8 0, .int .u8 0, .int .u8 0, .int .u8 0, .int .u8 0, .int .u8 0, .int .u8 0, .int .u8 0] 65) = v4 at *
            generalize v3.heap.size = BL at *
            have hd1 : PP ≠ BL ∧ PP ≠ DD ∧ BL ≠ DD := by omega
            have hzP0 := cell_of_block hP4 0
            have hzP1 := cell_of_block hP4 1
            have hzP2 := cell_of_block hP4 2
            have hzf := frozen_of_block hP4
            simp at hzP0 hzP1 hzP2
            obtain ⟨hP5, hb5⟩ := puzzle_stored (B := w.heap.size) hP4 (by omega) (.int .i64 W) (.int .i64 H) (.slice none 0 0)
            have hO5 : ∀ b, b ≠ PP → (((v4.setCell ⟨PP, 0, none⟩ (.int .i64 W)).setCell ⟨PP, 1, none⟩ (.int .i64 H)).setCell ⟨PP, 2, none⟩ (.slice none 0 0)).heap[b]? = v4.heap[b]? := fun b hb => (away_setC hb).trans ((away_setC hb).trans (away_setC hb))
            have hS5 := range_heap hS4 (hO5 GG (by omega))
            have hE5 := (hO5 w.heap.size (by omega)).trans hE4
            have hL5 := (hO5 BL (by omega)).trans hL4
            have hD5 := (hO5 DD (by omega)).trans hD4
            have hB5 := hB4.trans hb5
            refine wpAnyH_ready (rs := [11]) (by kernel_rfl) (by simp) ?_
            refine AllReadyH.cons rfl (fun K hK => ?_) AllReadyH.nil
            go_simp
            refine hK.out _ _ hS5 (fun _ => ?_)
            clear hK K
            clear hO5 hb5 hS4 hE4 hA4 hB4 hG4 hP4 hL4 hD4 hzP0 hzP1 hzP2 hzf
            generalize ((v4.setCell ⟨PP, 0, none⟩ (.int .i64 W)).setCell ⟨PP, 1, none⟩ (.int .i64 H)).setCell ⟨PP, 2, none⟩ (.slice none 0 0) = v5 at *
            refine wpAnyH_ready (rs := [12]) (by kernel_rfl) (by simp) ?_
            refine AllReadyH.cons rfl (fun K hK => ?_) AllReadyH.nil
            rw [if_pos (by rfl)]
            refine wp_store_mid 65 _ _ rfl BL 0 (encB (preB W (W * H) cells)).toArray rfl rfl (by rw [encB_size]; exact there24 hL5 rfl) (inf67.trans (by rw [encB_size])) (all_oneCell_toArray (encB_one _)) ?_
            have hL6 : BoxB (v5.setCells BL 0 (encB (preB W (W * H) cells))) BL (preB W (W * H) cells) := ⟨World.rangeAt_setCells_same _ _ 0 _ (by rw [encB_len]; exact there24 hL5 rfl), World.there_setCells (there24 hL5 rfl) BL 0 _⟩
            have hO6 : ∀ b, b ≠ BL → (v5.setCells BL 0 (encB (preB W (W * H) cells))).heap[b]? = v5.heap[b]? := fun b hb => heap_setCells hb _ 0 v5
            have hS6 := range_heap hS5 (hO6 GG (by omega))
            have hE6 := (hO6 w.heap.size (by omega)).trans hE5
            have hP6 := (hO6 PP (by omega)).trans hP5
            have hD6 := (hO6 DD (by omega)).trans hD5
            have hB6 : Below w.heap.size w (v5.setCells BL 0 (encB (preB W (W * H) cells))) := below_setCells _ 0 hB5 (by omega)
            refine hK.out _ _ hS6 (fun _ => ?_)
            clear hK K hO6 hS5 hE5 hP5 hL5 hD5 hB5
            generalize v5.setCells BL 0 (encB (preB W (W * H) cells)) = v6 at *
            have hzD := cell_of_block hD6 0
            have hzg := frozen_of_block hD6 0
            simp at hzD
            refine wpAnyH_ready (rs := [13]) (by kernel_rfl) (by simp) ?_
            refine AllReadyH.cons rfl (fun K hK => ?_) AllReadyH.nil
            go_simp
            have hO7 : ∀ b, b ≠ DD → (v6.setCell ⟨DD, 0, none⟩ (.int .i64 s)).heap[b]? = v6.heap[b]? := fun b hb => away_setC hb
            refine hK.out _ _ (range_heap hS6 (hO7 GG (by omega))) (fun _ => ?_)
            clear hK K
            refine wpAnyH_done (by kernel_rfl) ?_ _
            refine ⟨.pointer (some ⟨GG, 0, none⟩), .int .i64 W, .pointer (some ⟨GG, 1, none⟩), .int .i64 H, .agg #[.int .i64 W, .int .i64 H, .slice none 0 0], .agg #[.int .i64 W, .int .i64 H, .slice a1 cells.length c1, .bool false], .agg (encB (preB W (W * H) cells)).toArray, .int .i64 s, PP, BL, DD, ?_, hd1.1, hd1.2.1, hd1.2.2, by omega, by omega, by omega, (hO7 PP (by omega)).trans hP6, hL6.heap (hO7 BL (by omega)), block_set hD6 0 _, (hO7 w.heap.size (by omega)).trans hE6, hB6.trans ((Below.set 0 _).mono (by omega))⟩
            first | rfl | (simp only [Act.put, List.setIfInBounds_toArray, List.set_cons_zero, List.set_cons_succ]; rfl)
        · go_simp
          have hbk : Below v2.heap.size v2 (v2.alloc (.cells #[.int .u8 0, .int .u8 0, .int .u8 0, .int .u8 0, .int .u8 0, .int .u8 0, .int .u8 0, .int .u8 0, .int .u8 0, .int .u8 0, .int .u8 0, .int .u8 0, .int .u8 0, .int .u8 0, .int .u8 0, .int .u8 0, .int .u8 0, .int .u8 0, .int .u8 0, .int .u8 0, .int .u8 0, .int .u8 0, .int .u8 0, .int .u8 0] 65)) := (Below.refl _ _).alloc (Nat.le_refl _) _
          have hS3 := range_later hS2 hbk
          have hE3 := (hbk.block _ (block_lt hE2)).trans hE2
          have hA3 := hA2.later rfl hbk
          have hB3 := hB2.trans (hbk.mono hB2.size)
          have hG3 := Nat.lt_of_lt_of_le hG2 hbk.size
          have hD3 := (hbk.block _ (block_lt hD2)).trans hD2
          have hL3 : (v2.alloc (.cells #[.int .u8 0, .int .u8 0, .int .u8 0, .int .u8 0, .int .u8 0, .int .u8 0, .int .u8 0, .int .u8 0, .int .u8 0, .int .u8 0, .int .u8 0, .int .u8 0, .int .u8 0, .int .u8 0, .int .u8 0, .int .u8 0, .int .u8 0, .int .u8 0, .int .u8 0, .int .u8 0, .int .u8 0, .int .u8 0, .int .u8 0, .int .u8 0] 65)).heap[v2.heap.size]? = some (.cells zer 65 (0, 0)) := heap_alloc_new v2 (.cells #[.int .u8 0, .int .u8 0, .int .u8 0, .int .u8 0, .int .u8 0, .int .u8 0, .int .u8 0, .int .u8 0, .int .u8 0, .int .u8 0, .int .u8 0, .int .u8 0, .int .u8 0, .int .u8 0, .int .u8 0, .int .u8 0, .int .u8 0, .int .u8 0, .int .u8 0, .int .u8 0, .int .u8 0, .int .u8 0, .int .u8 0, .int .u8 0] 65)
          have hgL : GG < v2.heap.size := hG2
          have hlDL : DD < v2.heap.size := block_lt hD2
          refine hK.out _ _ hS3 (fun _ => ?_)
          clear hK K
          clear hbk hS2 hE2 hA2 hB2 hG2 hD2
          generalize v2.alloc (.cells #[.int .u8 0, .int .u8 0, .int .u8 0, .int .u8 0, .int .u8 0, .int .u8 0, .int .u8 0, .int .u8 0, .int .u8 0, .int .u8 0, .int .u8 0, .int .u8 0, .int .u8 0, .int .u8 0, .int .u8 0, .int .u8 0, .int .u8 0, .int .u8 0, .int .u8 0, .int .u8 0, .int .u8 0, .int .u8 0, .int .u8 0, .int .u8 0] 65) = v3 at *
          generalize v2.heap.size = BL at *
          refine wpAnyH_ready (rs := [8]) (by kernel_rfl) (by simp) ?_
          refine AllReadyH.cons rfl (fun K hK => ?_) AllReadyH.nil
          · go_simp
            have hbk : Below v3.heap.size v3 (v3.alloc (.cells #[.int .i64 0, .int .i64 0, .slice none 0 0] 31)) := (Below.refl _ _).alloc (Nat.le_refl _) _
            have hS4 := range_later hS3 hbk
            have hE4 := (hbk.block _ (block_lt hE3)).trans hE3
            have hA4 := hA3.later rfl hbk
            have hB4 := hB3.trans (hbk.mono hB3.size)
            have hG4 := Nat.lt_of_lt_of_le hG3 hbk.size
            have hD4 := (hbk.block _ (block_lt hD3)).trans hD3
            have hL4 := (hbk.block _ (block_lt hL3)).trans hL3
            have hP4 : (v3.alloc (.cells #[.int .i64 0, .int .i64 0, .slice none 0 0] 31)).heap[v3.heap.size]? = some (.cells #[.int .i64 0, .int .i64 0, .slice none 0 0] 31 (0, 0)) := heap_alloc_new v3 (.cells #[.int .i64 0, .int .i64 0, .slice none 0 0] 31)
            have hgP : GG < v3.heap.size := hG3
            have hlDP : DD < v3.heap.size := block_lt hD3
            have hlLP : BL < v3.heap.size := block_lt hL3
            refine hK.out _ _ hS4 (fun _ => ?_)
            clear hK K
            clear hbk hS3 hE3 hA3 hB3 hG3 hD3 hL3
            generalize v3.alloc (.cells #[.int .i64 0, .int .i64 0, .slice none 0 0] 31) = v4 at *
            generalize v3.heap.size = PP at *
            have hd1 : PP ≠ BL ∧ PP ≠ DD ∧ BL ≠ DD := by omega
            have hzP0 := cell_of_block hP4 0
            have hzP1 := cell_of_block hP4 1
            have hzP2 := cell_of_block hP4 2
            have hzf := frozen_of_block hP4
            simp at hzP0 hzP1 hzP2
            obtain ⟨hP5, hb5⟩ := puzzle_stored (B := w.heap.size) hP4 (by omega) (.int .i64 W) (.int .i64 H) (.slice none 0 0)
            have hO5 : ∀ b, b ≠ PP → (((v4.setCell ⟨PP, 0, none⟩ (.int .i64 W)).setCell ⟨PP, 1, none⟩ (.int .i64 H)).setCell ⟨PP, 2, none⟩ (.slice none 0 0)).heap[b]? = v4.heap[b]? := fun b hb => (away_setC hb).trans ((away_setC hb).trans (away_setC hb))
            have hS5 := range_heap hS4 (hO5 GG (by omega))
            have hE5 := (hO5 w.heap.size (by omega)).trans hE4
            have hL5 := (hO5 BL (by omega)).trans hL4
            have hD5 := (hO5 DD (by omega)).trans hD4
            have hB5 := hB4.trans hb5
            refine wpAnyH_ready (rs := [11]) (by kernel_rfl) (by simp) ?_
            refine AllReadyH.cons rfl (fun K hK => ?_) AllReadyH.nil
            go_simp
            refine hK.out _ _ hS5 (fun _ => ?_)
            clear hK K
            clear hO5 hb5 hS4 hE4 hA4 hB4 hG4 hP4 hL4 hD4 hzP0 hzP1 hzP2 hzf
            generalize ((v4.setCell ⟨PP, 0, none⟩ (.int .i64 W)).setCell ⟨PP, 1, none⟩ (.int .i64 H)).setCell ⟨PP, 2, none⟩ (.slice none 0 0) = v5 at *
            refine wpAnyH_ready (rs := [12]) (by kernel_rfl) (by simp) ?_
            refine AllReadyH.cons rfl (fun K hK => ?_) AllReadyH.nil
            rw [if_pos (by rfl)]
            refine wp_store_mid 65 _ _ rfl BL 0 (encB (preB W (W * H) cells)).toArray rfl rfl (by rw [encB_size]; exact there24 hL5 rfl) (inf67.trans (by rw [encB_size])) (all_oneCell_toArray (encB_one _)) ?_
            have hL6 : BoxB (v5.setCells BL 0 (encB (preB W (W * H) cells))) BL (preB W (W * H) cells) := ⟨World.rangeAt_setCells_same _ _ 0 _ (by rw [encB_len]; exact there24 hL5 rfl), World.there_setCells (there24 hL5 rfl) BL 0 _⟩
            have hO6 : ∀ b, b ≠ BL → (v5.setCells BL 0 (encB (preB W (W * H) cells))).heap[b]? = v5.heap[b]? := fun b hb => heap_setCells hb _ 0 v5
            have hS6 := range_heap hS5 (hO6 GG (by omega))
            have hE6 := (hO6 w.heap.size (by omega)).trans hE5
            have hP6 := (hO6 PP (by omega)).trans hP5
            have hD6 := (hO6 DD (by omega)).trans hD5
            have hB6 : Below w.heap.size w (v5.setCells BL 0 (encB (preB W (W * H) cells))) := below_setCells _ 0 hB5 (by omega)
            refine hK.out _ _ hS6 (fun _ => ?_)
            clear hK K hO6 hS5 hE5 hP5 hL5 hD5 hB5
            generalize v5.setCells BL 0 (encB (preB W (W * H) cells)) = v6 at *
            have hzD := cell_of_block hD6 0
            have hzg := frozen_of_block hD6 0
            simp at hzD
            refine wpAnyH_ready (rs := [13]) (by kernel_rfl) (by simp) ?_
            refine AllReadyH.cons rfl (fun K hK => ?_) AllReadyH.nil
            go_simp
            have hO7 : ∀ b, b ≠ DD → (v6.setCell ⟨DD, 0, none⟩ (.int .i64 s)).heap[b]? = v6.heap[b]? := fun b hb => away_setC hb
            refine hK.out _ _ (range_heap hS6 (hO7 GG (by omega))) (fun _ => ?_)
            clear hK K
            refine wpAnyH_done (by kernel_rfl) ?_ _
            refine ⟨.pointer (some ⟨GG, 0, none⟩), .int .i64 W, .pointer (some ⟨GG, 1, none⟩), .int .i64 H, .agg #[.int .i64 W, .int .i64 H, .slice none 0 0], .agg #[.int .i64 W, .int .i64 H, .slice a1 cells.length c1, .bool false], .agg (encB (preB W (W * H) cells)).toArray, .int .i64 s, PP, BL, DD, ?_, hd1.1, hd1.2.1, hd1.2.2, by omega, by omega, by omega, (hO7 PP (by omega)).trans hP6, hL6.heap (hO7 BL (by omega)), block_set hD6 0 _, (hO7 w.heap.size (by omega)).trans hE6, hB6.trans ((Below.set 0 _).mono (by omega))⟩
            first | rfl | (simp only [Act.put, List.setIfInBounds_toArray, List.set_cons_zero, List.set_cons_succ]; rfl)
      · go_simp
        have hbk : Below v1.heap.size v1 (v1.alloc (.cells #[.int .i64 0, .int .i64 0, .slice none 0 0] 31)) := (Below.refl _ _).alloc (Nat.le_refl _) _
        have hS2 := range_later hS1 hbk
        have hE2 := (hbk.block _ (block_lt hE1)).trans hE1
        have hA2 := hA1.later rfl hbk
        have hB2 := hB1.trans (hbk.mono hB1.size)
        have hG2 := Nat.lt_of_lt_of_le hG1 hbk.size
        have hD2 := (hbk.block _ (block_lt hD1)).trans hD1
        have hP2 : (v1.alloc (.cells #[.int .i64 0, .int .i64 0, .slice none 0 0] 31)).heap[v1.heap.size]? = some (.cells #[.int .i64 0, .int .i64 0, .slice none 0 0] 31 (0, 0)) := heap_alloc_new v1 (.cells #[.int .i64 0, .int .i64 0, .slice none 0 0] 31)
        have hgP : GG < v1.heap.size := hG1
        have hlDP : DD < v1.heap.size := block_lt hD1
        refine hK.out _ _ hS2 (fun _ => ?_)
        clear hK K
        clear hbk hS1 hE1 hA1 hB1 hG1 hD1
        generalize v1.alloc (.cells #[.int .i64 0, .int .i64 0, .slice none 0 0] 31) = v2 at *
        generalize v1.heap.size = PP at *
        refine wpAnyH_ready (rs := [6, 9]) (by kernel_rfl) (by simp) ?_
        refine AllReadyH.cons rfl (fun K hK => ?_) (AllReadyH.cons rfl (fun K hK => ?_) AllReadyH.nil)
        · go_simp
          refine (HL.out a1 c1 v2 hA2).mono ?_
          rintro e v3 ⟨rfl, hbk⟩
          have hS3 := range_later hS2 hbk
          have hE3 := (hbk.block _ (block_lt hE2)).trans hE2
          have hA3 := hA2.later rfl hbk
          have hB3 := hB2.trans (hbk.mono hB2.size)
          have hG3 := Nat.lt_of_lt_of_le hG2 hbk.size
          have hD3 := (hbk.block _ (block_lt hD2)).trans hD2
          have hP3 := (hbk.block _ (block_lt hP2)).trans hP2
          clear hbk hS2 hE2 hA2 hB2 hG2 hD2 hP2
          go_wp2_with fail
          refine hK.out _ _ hS3 (fun _ => ?_)
          clear hK K
          refine wpAnyH_ready (rs := [9]) (by kernel_rfl) (by simp) ?_
          refine AllReadyH.cons rfl (fun K hK => ?_) AllReadyH.nil
          · go_simp
            have hbk : Below v3.heap.size v3 (v3.alloc (.cells #[.int .u8 0, .int .u8 0, .int .u8 0, .int .u8 0, .int .u8 0, .int .u8 0, .int .u8 0, .int .u8 0, .int .u8 0, .int .u8 0, .int .u8 0, .int .u8 0, .int .u8 0, .int .u8 0, .int .u8 0, .int .u8 0, .int .u8 0, .int .u8 0, .int .u8 0, .int .u8 0, .int .u8 0, .int .u8 0, .int .u8 0, .int .u8 0] 65)) := (Below.refl _ _).alloc (Nat.le_refl _) _
            have hS4 := range_later hS3 hbk
            have hE4 := (hbk.block _ (block_lt hE3)).trans hE3
            have hA4 := hA3.later rfl hbk
            have hB4 := hB3.trans (hbk.mono hB3.size)
            have hG4 := Nat.lt_of_lt_of_le hG3 hbk.size
            have hD4 := (hbk.block _ (block_lt hD3)).trans hD3
            have hP4 := (hbk.block _ (block_lt hP3)).trans hP3
            have hL4 : (v3.alloc (.cells #[.int .u8 0, .int .u8 0, .int .u8 0, .int .u8 0, .int .u8 0, .int .u8 0, .int .u8 0, .int .u8 0, .int .u8 0, .int .u8 0, .int .u8 0, .int .u8 0, .int .u8 0, .int .u8 0, .int .u8 0, .int .u8 0, .int .u8 0, .int .u8 0, .int .u8 0, .int .u8 0, .int .u8 0, .int .u8 0, .int .u8 0, .int .u8 0] 65)).heap[v3.heap.size]? = some (.cells zer 65 (0, 0)) := heap_alloc_new v3 (.cells #[.int .u8 0, .int .u8 0, .int .u8 0, .int .u8 0, .int .u8 0, .int .u8 0, .int .u8 0, .int .u8 0, .int .u8 0, .int .u8 0, .int .u8 0, .int .u8 0, .int .u8 0, .int .u8 0, .int .u8 0, .int .u8 0, .int .u8 0, .int .u8 0, .int .u8 0, .int .u8 0, .int .u8 0, .int .u8 0, .int .u8 0, .int .u8 0] 65)
            have hgL : GG < v3.heap.size := hG3
            have hlDL : DD < v3.heap.size := block_lt hD3
            have hlPL : PP < v3.heap.size := block_lt hP3
            refine hK.out _ _ hS4 (fun _ => ?_)
            clear hK K
            clear hbk hS3 hE3 hA3 hB3 hG3 hD3 hP3
            generalize v3.alloc (.cells #[.int .u8 0, .int .u8 0, .int .u8 0, .int .u8 0, .int .u8 0, .int .u8 0, .int .u8 0, .int .u8 0, .int .u8 0, .int .u8 0, .int .u8 0, .int .u8 0, .int .u8 0, .int .u8 0, .int .u8 0, .int .u8 0, .int .u8 0, .int .u8 0, .int .u8 0, .int .u8 0, .int .u8 0, .int .u8 0, .int .u8 0, .int .u8 0] 65) = v4 at *
            generalize v3.heap.size = BL at *
            have hd1 : PP ≠ BL ∧ PP ≠ DD ∧ BL ≠ DD := by omega
            have hzP0 := cell_of_block hP4 0
            have hzP1 := cell_of_block hP4 1
            have hzP2 := cell_of_block hP4 2
            have hzf := frozen_of_block hP4
            simp at hzP0 hzP1 hzP2
            obtain ⟨hP5, hb5⟩ := puzzle_stored (B := w.heap.size) hP4 (by omega) (.int .i64 W) (.int .i64 H) (.slice none 0 0)
            have hO5 : ∀ b, b ≠ PP → (((v4.setCell ⟨PP, 0, none⟩ (.int .i64 W)).setCell ⟨PP, 1, none⟩ (.int .i64 H)).setCell ⟨PP, 2, none⟩ (.slice none 0 0)).heap[b]? = v4.heap[b]? := fun b hb => (away_setC hb).trans ((away_setC hb).trans (away_setC hb))
            have hS5 := range_heap hS4 (hO5 GG (by omega))
            have hE5 := (hO5 w.heap.size (by omega)).trans hE4
            have hL5 := (hO5 BL (by omega)).trans hL4
            have hD5 := (hO5 DD (by omega)).trans hD4
            have hB5 := hB4.trans hb5
            refine wpAnyH_ready (rs := [11]) (by kernel_rfl) (by simp) ?_
            refine AllReadyH.cons rfl (fun K hK => ?_) AllReadyH.nil
            go_simp
            refine hK.out _ _ hS5 (fun _ => ?_)
            clear hK K
            clear hO5 hb5 hS4 hE4 hA4 hB4 hG4 hP4 hL4 hD4 hzP0 hzP1 hzP2 hzf
            generalize ((v4.setCell ⟨PP, 0, none⟩ (.int .i64 W)).setCell ⟨PP, 1, none⟩ (.int .i64 H)).setCell ⟨PP, 2, none⟩ (.slice none 0 0) = v5 at *
            refine wpAnyH_ready (rs := [12]) (by kernel_rfl) (by simp) ?_
            refine AllReadyH.cons rfl (fun K hK => ?_) AllReadyH.nil
            rw [if_pos (by rfl)]
            refine wp_store_mid 65 _ _ rfl BL 0 (encB (preB W (W * H) cells)).toArray rfl rfl (by rw [encB_size]; exact there24 hL5 rfl) (inf67.trans (by rw [encB_size])) (all_oneCell_toArray (encB_one _)) ?_
            have hL6 : BoxB (v5.setCells BL 0 (encB (preB W (W * H) cells))) BL (preB W (W * H) cells) := ⟨World.rangeAt_setCells_same _ _ 0 _ (by rw [encB_len]; exact there24 hL5 rfl), World.there_setCells (there24 hL5 rfl) BL 0 _⟩
            have hO6 : ∀ b, b ≠ BL → (v5.setCells BL 0 (encB (preB W (W * H) cells))).heap[b]? = v5.heap[b]? := fun b hb => heap_setCells hb _ 0 v5
            have hS6 := range_heap hS5 (hO6 GG (by omega))
            have hE6 := (hO6 w.heap.size (by omega)).trans hE5
            have hP6 := (hO6 PP (by omega)).trans hP5
            have hD6 := (hO6 DD (by omega)).trans hD5
            have hB6 : Below w.heap.size w (v5.setCells BL 0 (encB (preB W (W * H) cells))) := below_setCells _ 0 hB5 (by omega)
            refine hK.out _ _ hS6 (fun _ => ?_)
            clear hK K hO6 hS5 hE5 hP5 hL5 hD5 hB5
            generalize v5.setCells BL 0 (encB (preB W (W * H) cells)) = v6 at *
            have hzD := cell_of_block hD6 0
            have hzg := frozen_of_block hD6 0
            simp at hzD
            refine wpAnyH_ready (rs := [13]) (by kernel_rfl) (by simp) ?_
            refine AllReadyH.cons rfl (fun K hK => ?_) AllReadyH.nil
            go_simp
            have hO7 : ∀ b, b ≠ DD → (v6.setCell ⟨DD, 0, none⟩ (.int .i64 s)).heap[b]? = v6.heap[b]? := fun b hb => away_setC hb
            refine hK.out _ _ (range_heap hS6 (hO7 GG (by omega))) (fun _ => ?_)
            clear hK K
            refine wpAnyH_done (by kernel_rfl) ?_ _
            refine ⟨.pointer (some ⟨GG, 0, none⟩), .int .i64 W, .pointer (some ⟨GG, 1, none⟩), .int .i64 H, .agg #[.int .i64 W, .int .i64 H, .slice none 0 0], .agg #[.int .i64 W, .int .i64 H, .slice a1 cells.length c1, .bool false], .agg (encB (preB W (W * H) cells)).toArray, .int .i64 s, PP, BL, DD, ?_, hd1.1, hd1.2.1, hd1.2.2, by omega, by omega, by omega, (hO7 PP (by omega)).trans hP6, hL6.heap (hO7 BL (by omega)), block_set hD6 0 _, (hO7 w.heap.size (by omega)).trans hE6, hB6.trans ((Below.set 0 _).mono (by omega))⟩
            first | rfl | (simp only [Act.put, List.setIfInBounds_toArray, List.set_cons_zero, List.set_cons_succ]; rfl)
        · go_simp
          have hbk : Below v2.heap.size v2 (v2.alloc (.cells #[.int .u8 0, .int .u8 0, .int .u8 0, .int .u8 0, .int .u8 0, .int .u8 0, .int .u8 0, .int .u8 0, .int .u8 0, .int .u8 0, .int .u8 0, .int .u8 0, .int .u8 0, .int .u8 0, .int .u8 0, .int .u8 0, .int .u8 0, .int .u8 0, .int .u8 0, .int .u8 0, .int .u8 0, .int .u8 0, .int .u8 0, .int .u8 0] 65)) := (Below.refl _ _).alloc (Nat.le_refl _) _
          have hS3 := range_later hS2 hbk
          have hE3 := (hbk.block _ (block_lt hE2)).trans hE2
          have hA3 := hA2.later rfl hbk
          have hB3 := hB2.trans (hbk.mono hB2.size)
          have hG3 := Nat.lt_of_lt_of_le hG2 hbk.size
          have hD3 := (hbk.block _ (block_lt hD2)).trans hD2
          have hP3 := (hbk.block _ (block_lt hP2)).trans hP2
          have hL3 : (v2.alloc (.cells #[.int .u8 0, .int .u8 0, .int .u8 0, .int .u8 0, .int .u8 0, .int .u8 0, .int .u8 0, .int .u8 0, .int .u8 0, .int .u8 0, .int .u8 0, .int .u8 0, .int .u8 0, .int .u8 0, .int .u8 0, .int .u8 0, .int .u8 0, .int .u8 0, .int .u8 0, .int .u8 0, .int .u8 0, .int .u8 0, .int .u8 0, .int .u8 0] 65)).heap[v2.heap.size]? = some (.cells zer 65 (0, 0)) := heap_alloc_new v2 (.cells #[.int .u8 0, .int .u8 0, .int .u8 0, .int .u8 0, .int .u8 0, .int .u8 0, .int .u8 0, .int .u8 0, .int .u8 0, .int .u8 0, .int .u8 0, .int .u8 0, .int .u8 0, .int .u8 0, .int .u8 0, .int .u8 0, .int .u8 0, .int .u8 0, .int .u8 0, .int .u8 0, .int .u8 0, .int .u8 0, .int .u8 0, .int .u8 0] 65)
          have hgL : GG < v2.heap.size := hG2
          have hlDL : DD < v2.heap.size := block_lt hD2
          have hlPL : PP < v2.heap.size := block_lt hP2
          refine hK.out _ _ hS3 (fun _ => ?_)
          clear hK K
          clear hbk hS2 hE2 hA2 hB2 hG2 hD2 hP2
          generalize v2.alloc (.cells #[.int .u8 0, .int .u8 0, .int .u8 0, .int .u8 0, .int .u8 0, .int .u8 0, .int .u8 0, .int .u8 0, .int .u8 0, .int .u8 0, .int .u8 0, .int .u8 0, .int .u8 0, .int .u8 0, .int .u8 0, .int .u8 0, .int .u8 0, .int .u8 0, .int .u8 0, .int .u8 0, .int .u8 0, .int .u8 0, .int .u8 0, .int .u8 0] 65) = v3 at *
          generalize v2.heap.size = BL at *
          refine wpAnyH_ready (rs := [6]) (by kernel_rfl) (by simp) ?_
          refine AllReadyH.cons rfl (fun K hK => ?_) AllReadyH.nil
          · go_simp
            refine (HL.out a1 c1 v3 hA3).mono ?_
            rintro e v4 ⟨rfl, hbk⟩
            have hS4 := range_later hS3 hbk
            have hE4 := (hbk.block _ (block_lt hE3)).trans hE3
            have hA4 := hA3.later rfl hbk
            have hB4 := hB3.trans (hbk.mono hB3.size)
            have hG4 := Nat.lt_of_lt_of_le hG3 hbk.size
            have hD4 := (hbk.block _ (block_lt hD3)).trans hD3
            have hP4 := (hbk.block _ (block_lt hP3)).trans hP3
            have hL4 := (hbk.block _ (block_lt hL3)).trans hL3
            clear hbk hS3 hE3 hA3 hB3 hG3 hD3 hP3 hL3
            go_wp2_with fail
            refine hK.out _ _ hS4 (fun _ => ?_)
            clear hK K
            have hd1 : PP ≠ BL ∧ PP ≠ DD ∧ BL ≠ DD := by omega
            have hzP0 := cell_of_block hP4 0
            have hzP1 := cell_of_block hP4 1
            have hzP2 := cell_of_block hP4 2
            have hzf := frozen_of_block hP4
            simp at hzP0 hzP1 hzP2
            obtain ⟨hP5, hb5⟩ := puzzle_stored (B := w.heap.size) hP4 (by omega) (.int .i64 W) (.int .i64 H) (.slice none 0 0)
            have hO5 : ∀ b, b ≠ PP → (((v4.setCell ⟨PP, 0, none⟩ (.int .i64 W)).setCell ⟨PP, 1, none⟩ (.int .i64 H)).setCell ⟨PP, 2, none⟩ (.slice none 0 0)).heap[b]? = v4.heap[b]? := fun b hb => (away_setC hb).trans ((away_setC hb).trans (away_setC hb))
            have hS5 := range_heap hS4 (hO5 GG (by omega))
            have hE5 := (hO5 w.heap.size (by omega)).trans hE4
            have hL5 := (hO5 BL (by omega)).trans hL4
            have hD5 := (hO5 DD (by omega)).trans hD4
            have hB5 := hB4.trans hb5
            refine wpAnyH_ready (rs := [11]) (by kernel_rfl) (by simp) ?_
            refine AllReadyH.cons rfl (fun K hK => ?_) AllReadyH.nil
            go_simp
            refine hK.out _ _ hS5 (fun _ => ?_)
            clear hK K
            clear hO5 hb5 hS4 hE4 hA4 hB4 hG4 hP4 hL4 hD4 hzP0 hzP1 hzP2 hzf
            generalize ((v4.setCell ⟨PP, 0, none⟩ (.int .i64 W)).setCell ⟨PP, 1, none⟩ (.int .i64 H)).setCell ⟨PP, 2, none⟩ (.slice none 0 0) = v5 at *
            refine wpAnyH_ready (rs := [12]) (by kernel_rfl) (by simp) ?_
            refine AllReadyH.cons rfl (fun K hK => ?_) AllReadyH.nil
            rw [if_pos (by rfl)]
            refine wp_store_mid 65 _ _ rfl BL 0 (encB (preB W (W * H) cells)).toArray rfl rfl (by rw [encB_size]; exact there24 hL5 rfl) (inf67.trans (by rw [encB_size])) (all_oneCell_toArray (encB_one _)) ?_
            have hL6 : BoxB (v5.setCells BL 0 (encB (preB W (W * H) cells))) BL (preB W (W * H) cells) := ⟨World.rangeAt_setCells_same _ _ 0 _ (by rw [encB_len]; exact there24 hL5 rfl), World.there_setCells (there24 hL5 rfl) BL 0 _⟩
            have hO6 : ∀ b, b ≠ BL → (v5.setCells BL 0 (encB (preB W (W * H) cells))).heap[b]? = v5.heap[b]? := fun b hb => heap_setCells hb _ 0 v5
            have hS6 := range_heap hS5 (hO6 GG (by omega))
            have hE6 := (hO6 w.heap.size (by omega)).trans hE5
            have hP6 := (hO6 PP (by omega)).trans hP5
            have hD6 := (hO6 DD (by omega)).trans hD5
            have hB6 : Below w.heap.size w (v5.setCells BL 0 (encB (preB W (W * H) cells))) := below_setCells _ 0 hB5 (by omega)
            refine hK.out _ _ hS6 (fun _ => ?_)
            clear hK K hO6 hS5 hE5 hP5 hL5 hD5 hB5
            generalize v5.setCells BL 0 (encB (preB W (W * H) cells)) = v6 at *
            have hzD := cell_of_block hD6 0
            have hzg := frozen_of_block hD6 0
            simp at hzD
            refine wpAnyH_ready (rs := [13]) (by kernel_rfl) (by simp) ?_
            refine AllReadyH.cons rfl (fun K hK => ?_) AllReadyH.nil
            go_simp
            have hO7 : ∀ b, b ≠ DD → (v6.setCell ⟨DD, 0, none⟩ (.int .i64 s)).heap[b]? = v6.heap[b]? := fun b hb => away_setC hb
            refine hK.out _ _ (range_heap hS6 (hO7 GG (by omega))) (fun _ => ?_)
            clear hK K
            refine wpAnyH_done (by kernel_rfl) ?_ _
            refine ⟨.pointer (some ⟨GG, 0, none⟩), .int .i64 W, .pointer (some ⟨GG, 1, none⟩), .int .i64 H, .agg #[.int .i64 W, .int .i64 H, .slice none 0 0], .agg #[.int .i64 W, .int .i64 H, .slice a1 cells.length c1, .bool false], .agg (encB (preB W (W * H) cells)).toArray, .int .i64 s, PP, BL, DD, ?_, hd1.1, hd1.2.1, hd1.2.2, by omega, by omega, by omega, (hO7 PP (by omega)).trans hP6, hL6.heap (hO7 BL (by omega)), block_set hD6 0 _, (hO7 w.heap.size (by omega)).trans hE6, hB6.trans ((Below.set 0 _).mono (by omega))⟩
            first | rfl | (simp only [Act.put, List.setIfInBounds_toArray, List.set_cons_zero, List.set_cons_succ]; rfl)
      · go_simp
        have hbk : Below v1.heap.size v1 (v1.alloc (.cells #[.int .u8 0, .int .u8 0, .int .u8 0, .int .u8 0, .int .u8 0, .int .u8 0, .int .u8 0, .int .u8 0, .int .u8 0, .int .u8 0, .int .u8 0, .int .u8 0, .int .u8 0, .int .u8 0, .int .u8 0, .int .u8 0, .int .u8 0, .int .u8 0, .int .u8 0, .int .u8 0, .int .u8 0, .int .u8 0, .int .u8 0, .int .u8 0] 65)) := (Below.refl _ _).alloc (Nat.le_refl _) _
        have hS2 := range_later hS1 hbk
        have hE2 := (hbk.block _ (block_lt hE1)).trans hE1
        have hA2 := hA1.later rfl hbk
        have hB2 := hB1.trans (hbk.mono hB1.size)
        have hG2 := Nat.lt_of_lt_of_le hG1 hbk.size
        have hD2 := (hbk.block _ (block_lt hD1)).trans hD1
        have hL2 : (v1.alloc (.cells #[.int .u8 0, .int .u8 0, .int .u8 0, .int .u8 0, .int .u8 0, .int .u8 0, .int .u8 0, .int .u8 0, .int .u8 0, .int .u8 0, .int .u8 0, .int .u8 0, .int .u8 0, .int .u8 0, .int .u8 0, .int .u8 0, .int .u8 0, .int .u8 0, .int .u8 0, .int .u8 0, .int .u8 0, .int .u8 0, .int .u8 0, .int .u8 0] 65)).heap[v1.heap.size]? = some (.cells zer 65 (0, 0)) := heap_alloc_new v1 (.cells #[.int .u8 0, .int .u8 0, .int .u8 0, .int .u8 0, .int .u8 0, .int .u8 0, .int .u8 0, .int .u8 0, .int .u8 0, .int .u8 0, .int .u8 0, .int .u8 0, .int .u8 0, .int .u8 0, .int .u8 0, .int .u8 0, .int .u8 0, .int .u8 0, .int .u8 0, .int .u8 0, .int .u8 0, .int .u8 0, .int .u8 0, .int .u8 0] 65)
        have hgL : GG < v1.heap.size := hG1
        have hlDL : DD < v1.heap.size := block_lt hD1
        refine hK.out _ _ hS2 (fun _ => ?_)
        clear hK K
        clear hbk hS1 hE1 hA1 hB1 hG1 hD1
        generalize v1.alloc (.cells #[.int .u8 0, .int .u8 0, .int .u8 0, .int .u8 0, .int .u8 0, .int .u8 0, .int .u8 0, .int .u8 0, .int .u8 0, .int .u8 0, .int .u8 0, .int .u8 0, .int .u8 0, .int .u8 0, .int .u8 0, .int .u8 0, .int .u8 0, .int .u8 0, .int .u8 0, .int .u8 0, .int .u8 0, .int .u8 0, .int .u8 0, .int .u8 0] 65) = v2 at *
        generalize v1.heap.size = BL at *
        refine wpAnyH_ready (rs := [6, 8]) (by kernel_rfl) (by simp) ?_
        refine AllReadyH.cons rfl (fun K hK => ?_) (AllReadyH.cons rfl (fun K hK => ?_) AllReadyH.nil)
        · go_simp
          refine (HL.out a1 c1 v2 hA2).mono ?_
          rintro e v3 ⟨rfl, hbk⟩
          have hS3 := range_later hS2 hbk
          have hE3 := (hbk.block _ (block_lt hE2)).trans hE2
          have hA3 := hA2.later rfl hbk
          have hB3 := hB2.trans (hbk.mono hB2.size)
          have hG3 := Nat.lt_of_lt_of_le hG2 hbk.size
          have hD3 := (hbk.block _ (block_lt hD2)).trans hD2
          have hL3 := (hbk.block _ (block_lt hL2)).trans hL2
          clear hbk hS2 hE2 hA2 hB2 hG2 hD2 hL2
          go_wp2_with fail
          refine hK.out _ _ hS3 (fun _ => ?_)
          clear hK K
          refine wpAnyH_ready (rs := [8]) (by kernel_rfl) (by simp) ?_
          refine AllReadyH.cons rfl (fun K hK => ?_) AllReadyH.nil
          · go_simp
            have hbk : Below v3.heap.size v3 (v3.alloc (.cells #[.int .i64 0, .int .i64 0, .slice none 0 0] 31)) := (Below.refl _ _).alloc (Nat.le_refl _) _
            have hS4 := range_later hS3 hbk
            have hE4 := (hbk.block _ (block_lt hE3)).trans hE3
            have hA4 := hA3.later rfl hbk
            have hB4 := hB3.trans (hbk.mono hB3.size)
            have hG4 := Nat.lt_of_lt_of_le hG3 hbk.size
            have hD4 := (hbk.block _ (block_lt hD3)).trans hD3
            have hL4 := (hbk.block _ (block_lt hL3)).trans hL3
            have hP4 : (v3.alloc (.cells #[.int .i64 0, .int .i64 0, .slice none 0 0] 31)).heap[v3.heap.size]? = some (.cells #[.int .i64 0, .int .i64 0, .slice none 0 0] 31 (0, 0)) := heap_alloc_new v3 (.cells #[.int .i64 0, .int .i64 0, .slice none 0 0] 31)
            have hgP : GG < v3.heap.size := hG3
            have hlDP : DD < v3.heap.size := block_lt hD3
            have hlLP : BL < v3.heap.size := block_lt hL3
            refine hK.out _ _ hS4 (fun _ => ?_)
            clear hK K
            clear hbk hS3 hE3 hA3 hB3 hG3 hD3 hL3
            generalize v3.alloc (.cells #[.int .i64 0, .int .i64 0, .slice none 0 0] 31) = v4 at *
            generalize v3.heap.size = PP at *
            have hd1 : PP ≠ BL ∧ PP ≠ DD ∧ BL ≠ DD := by omega
            have hzP0 := cell_of_block hP4 0
            have hzP1 := cell_of_block hP4 1
            have hzP2 := cell_of_block hP4 2
            have hzf := frozen_of_block hP4
            simp at hzP0 hzP1 hzP2
            obtain ⟨hP5, hb5⟩ := puzzle_stored (B := w.heap.size) hP4 (by omega) (.int .i64 W) (.int .i64 H) (.slice none 0 0)
            have hO5 : ∀ b, b ≠ PP → (((v4.setCell ⟨PP, 0, none⟩ (.int .i64 W)).setCell ⟨PP, 1, none⟩ (.int .i64 H)).setCell ⟨PP, 2, none⟩ (.slice none 0 0)).heap[b]? = v4.heap[b]? := fun b hb => (away_setC hb).trans ((away_setC hb).trans (away_setC hb))
            have hS5 := range_heap hS4 (hO5 GG (by omega))
            have hE5 := (hO5 w.heap.size (by omega)).trans hE4
            have hL5 := (hO5 BL (by omega)).trans hL4
            have hD5 := (hO5 DD (by omega)).trans hD4
            have hB5 := hB4.trans hb5
            refine wpAnyH_ready (rs := [11]) (by kernel_rfl) (by simp) ?_
            refine AllReadyH.cons rfl (fun K hK => ?_) AllReadyH.nil
            go_simp
            refine hK.out _ _ hS5 (fun _ => ?_)
            clear hK K
            clear hO5 hb5 hS4 hE4 hA4 hB4 hG4 hP4 hL4 hD4 hzP0 hzP1 hzP2 hzf
            generalize ((v4.setCell ⟨PP, 0, none⟩ (.int .i64 W)).setCell ⟨PP, 1, none⟩ (.int .i64 H)).setCell ⟨PP, 2, none⟩ (.slice none 0 0) = v5 at *
            refine wpAnyH_ready (rs := [12]) (by kernel_rfl) (by simp) ?_
            refine AllReadyH.cons rfl (fun K hK => ?_) AllReadyH.nil
            rw [if_pos (by rfl)]
            refine wp_store_mid 65 _ _ rfl BL 0 (encB (preB W (W * H) cells)).toArray rfl rfl (by rw [encB_size]; exact there24 hL5 rfl) (inf67.trans (by rw [encB_size])) (all_oneCell_toArray (encB_one _)) ?_
            have hL6 : BoxB (v5.setCells BL 0 (encB (preB W (W * H) cells))) BL (preB W (W * H) cells) := ⟨World.rangeAt_setCells_same _ _ 0 _ (by rw [encB_len]; exact there24 hL5 rfl), World.there_setCells (there24 hL5 rfl) BL 0 _⟩
            have hO6 : ∀ b, b ≠ BL → (v5.setCells BL 0 (encB (preB W (W * H) cells))).heap[b]? = v5.heap[b]? := fun b hb => heap_setCells hb _ 0 v5
            have hS6 := range_heap hS5 (hO6 GG (by omega))
            have hE6 := (hO6 w.heap.size (by omega)).trans hE5
            have hP6 := (hO6 PP (by omega)).trans hP5
            have hD6 := (hO6 DD (by omega)).trans hD5
            have hB6 : Below w.heap.size w (v5.setCells BL 0 (encB (preB W (W * H) cells))) := below_setCells _ 0 hB5 (by omega)
            refine hK.out _ _ hS6 (fun _ => ?_)
            clear hK K hO6 hS5 hE5 hP5 hL5 hD5 hB5
            generalize v5.setCells BL 0 (encB (preB W (W * H) cells)) = v6 at *
            have hzD := cell_of_block hD6 0
            have hzg := frozen_of_block hD6 0
            simp at hzD
            refine wpAnyH_ready (rs := [13]) (by kernel_rfl) (by simp) ?_
            refine AllReadyH.cons rfl (fun K hK => ?_) AllReadyH.nil
            go_simp
            have hO7 : ∀ b, b ≠ DD → (v6.setCell ⟨DD, 0, none⟩ (.int .i64 s)).heap[b]? = v6.heap[b]? := fun b hb => away_setC hb
            refine hK.out _ _ (range_heap hS6 (hO7 GG (by omega))) (fun _ => ?_)
            clear hK K
            refine wpAnyH_done (by kernel_rfl) ?_ _
            refine ⟨.pointer (some ⟨GG, 0, none⟩), .int .i64 W, .pointer (some ⟨GG, 1, none⟩), .int .i64 H, .agg #[.int .i64 W, .int .i64 H, .slice none 0 0], .agg #[.int .i64 W, .int .i64 H, .slice a1 cells.length c1, .bool false], .agg (encB (preB W (W * H) cells)).toArray, .int .i64 s, PP, BL, DD, ?_, hd1.1, hd1.2.1, hd1.2.2, by omega, by omega, by omega, (hO7 PP (by omega)).trans hP6, hL6.heap (hO7 BL (by omega)), block_set hD6 0 _, (hO7 w.heap.size (by omega)).trans hE6, hB6.trans ((Below.set 0 _).mono (by omega))⟩
            first | rfl | (simp only [Act.put, List.setIfInBounds_toArray, List.set_cons_zero, List.set_cons_succ]; rfl)
        · go_simp
          have hbk : Below v2.heap.size v2 (v2.alloc (.cells #[.int .i64 0, .int .i64 0, .slice none 0 0] 31)) := (Below.refl _ _).alloc (Nat.le_refl _) _
          have hS3 := range_later hS2 hbk
          have hE3 := (hbk.block _ (block_lt hE2)).trans hE2
          have hA3 := hA2.later rfl hbk
          have hB3 := hB2.trans (hbk.mono hB2.size)
          have hG3 := Nat.lt_of_lt_of_le hG2 hbk.size
          have hD3 := (hbk.block _ (block_lt hD2)).trans hD2
          have hL3 := (hbk.block _ (block_lt hL2)).trans hL2
          have hP3 : (v2.alloc (.cells #[.int .i64 0, .int .i64 0, .slice none 0 0] 31)).heap[v2.heap.size]? = some (.cells #[.int .i64 0, .int .i64 0, .slice none 0 0] 31 (0, 0)) := heap_alloc_new v2 (.cells #[.int .i64 0, .int .i64 0, .slice none 0 0] 31)
          have hgP : GG < v2.heap.size := hG2
          have hlDP : DD < v2.heap.size := block_lt hD2
          have hlLP : BL < v2.heap.size := block_lt hL2
          refine hK.out _ _ hS3 (fun _ => ?_)
          clear hK K
          clear hbk hS2 hE2 hA2 hB2 hG2 hD2 hL2
          generalize v2.alloc (.cells #[.int .i64 0, .int .i64 0, .slice none 0 0] 31) = v3 at *
          generalize v2.heap.size = PP at *
          refine wpAnyH_ready (rs := [6]) (by kernel_rfl) (by simp) ?_
          refine AllReadyH.cons rfl (fun K hK => ?_) AllReadyH.nil
          · go_simp
            refine (HL.out a1 c1 v3 hA3).mono ?_
            rintro e v4 ⟨rfl, hbk⟩
            have hS4 := range_later hS3 hbk
            have hE4 := (hbk.block _ (block_lt hE3)).trans hE3
            have hA4 := hA3.later rfl hbk
            have hB4 := hB3.trans (hbk.mono hB3.size)
            have hG4 := Nat.lt_of_lt_of_le hG3 hbk.size
            have hD4 := (hbk.block _ (block_lt hD3)).trans hD3
            have hL4 := (hbk.block _ (block_lt hL3)).trans hL3
            have hP4 := (hbk.block _ (block_lt hP3)).trans hP3
            clear hbk hS3 hE3 hA3 hB3 hG3 hD3 hL3 hP3
            go_wp2_with fail
            refine hK.out _ _ hS4 (fun _ => ?_)
            clear hK K
            have hd1 : PP ≠ BL ∧ PP ≠ DD ∧ BL ≠ DD := by omega
            have hzP0 := cell_of_block hP4 0
            have hzP1 := cell_of_block hP4 1
            have hzP2 := cell_of_block hP4 2
            have hzf := frozen_of_block hP4
            simp at hzP0 hzP1 hzP2
            obtain ⟨hP5, hb5⟩ := puzzle_stored (B := w.heap.size) hP4 (by omega) (.int .i64 W) (.int .i64 H) (.slice none 0 0)
            have hO5 : ∀ b, b ≠ PP → (((v4.setCell ⟨PP, 0, none⟩ (.int .i64 W)).setCell ⟨PP, 1, none⟩ (.int .i64 H)).setCell ⟨PP, 2, none⟩ (.slice none 0 0)).heap[b]? = v4.heap[b]? := fun b hb => (away_setC hb).trans ((away_setC hb).trans (away_setC hb))
            have hS5 := range_heap hS4 (hO5 GG (by omega))
            have hE5 := (hO5 w.heap.size (by omega)).trans hE4
            have hL5 := (hO5 BL (by omega)).trans hL4
            have hD5 := (hO5 DD (by omega)).trans hD4
            have hB5 := hB4.trans hb5
            refine wpAnyH_ready (rs := [11]) (by kernel_rfl) (by simp) ?_
            refine AllReadyH.cons rfl (fun K hK => ?_) AllReadyH.nil
            go_simp
            refine hK.out _ _ hS5 (fun _ => ?_)
            clear hK K
            clear hO5 hb5 hS4 hE4 hA4 hB4 hG4 hP4 hL4 hD4 hzP0 hzP1 hzP2 hzf
            generalize ((v4.setCell ⟨PP, 0, none⟩ (.int .i64 W)).setCell ⟨PP, 1, none⟩ (.int .i64 H)).setCell ⟨PP, 2, none⟩ (.slice none 0 0) = v5 at *
            refine wpAnyH_ready (rs := [12]) (by kernel_rfl) (by simp) ?_
            refine AllReadyH.cons rfl (fun K hK => ?_) AllReadyH.nil
            rw [if_pos (by rfl)]
            refine wp_store_mid 65 _ _ rfl BL 0 (encB (preB W (W * H) cells)).toArray rfl rfl (by rw [encB_size]; exact there24 hL5 rfl) (inf67.trans (by rw [encB_size])) (all_oneCell_toArray (encB_one _)) ?_
            have hL6 : BoxB (v5.setCells BL 0 (encB (preB W (W * H) cells))) BL (preB W (W * H) cells) := ⟨World.rangeAt_setCells_same _ _ 0 _ (by rw [encB_len]; exact there24 hL5 rfl), World.there_setCells (there24 hL5 rfl) BL 0 _⟩
            have hO6 : ∀ b, b ≠ BL → (v5.setCells BL 0 (encB (preB W (W * H) cells))).heap[b]? = v5.heap[b]? := fun b hb => heap_setCells hb _ 0 v5
            have hS6 := range_heap hS5 (hO6 GG (by omega))
            have hE6 := (hO6 w.heap.size (by omega)).trans hE5
            have hP6 := (hO6 PP (by omega)).trans hP5
            have hD6 := (hO6 DD (by omega)).trans hD5
            have hB6 : Below w.heap.size w (v5.setCells BL 0 (encB (preB W (W * H) cells))) := below_setCells _ 0 hB5 (by omega)
            refine hK.out _ _ hS6 (fun _ => ?_)
            clear hK K hO6 hS5 hE5 hP5 hL5 hD5 hB5
            generalize v5.setCells BL 0 (encB (preB W (W * H) cells)) = v6 at *
            have hzD := cell_of_block hD6 0
            have hzg := frozen_of_block hD6 0
            simp at hzD
            refine wpAnyH_ready (rs := [13]) (by kernel_rfl) (by simp) ?_
            refine AllReadyH.cons rfl (fun K hK => ?_) AllReadyH.nil
            go_simp
            have hO7 : ∀ b, b ≠ DD → (v6.setCell ⟨DD, 0, none⟩ (.int .i64 s)).heap[b]? = v6.heap[b]? := fun b hb => away_setC hb
            refine hK.out _ _ (range_heap hS6 (hO7 GG (by omega))) (fun _ => ?_)
            clear hK K
            refine wpAnyH_done (by kernel_rfl) ?_ _
            refine ⟨.pointer (some ⟨GG, 0, none⟩), .int .i64 W, .pointer (some ⟨GG, 1, none⟩), .int .i64 H, .agg #[.int .i64 W, .int .i64 H, .slice none 0 0], .agg #[.int .i64 W, .int .i64 H, .slice a1 cells.length c1, .bool false], .agg (encB (preB W (W * H) cells)).toArray, .int .i64 s, PP, BL, DD, ?_, hd1.1, hd1.2.1, hd1.2.2, by omega, by omega, by omega, (hO7 PP (by omega)).trans hP6, hL6.heap (hO7 BL (by omega)), block_set hD6 0 _, (hO7 w.heap.size (by omega)).trans hE6, hB6.trans ((Below.set 0 _).mono (by omega))⟩
            first | rfl | (simp only [Act.put, List.setIfInBounds_toArray, List.set_cons_zero, List.set_cons_succ]; rfl)
  rintro a' w5 ⟨u41, u42, u43, u44, u45, u46, u47, u48, PP, BL, DD, rfl, h12, h13, h23, hPl, hLl, hDl, hP5, hL5, hD5, hE5, hB5⟩
  simp only [List.setIfInBounds_toArray, List.set_cons_zero, List.set_cons_succ]
  clear HL hA2 hH2 hE2 hB2 g0 g1 g2 g3 hn1 hn2 hs1 hs2
  generalize preB W (W * H) cells = bd at *
  go_wp2_with fail
  go_loopw [50] (fun i wr => ∃ k : Nat, ∃ v : Value, k ≤ n ∧ i = .int .i64 k ∧ zzK k s < 10007 ∧ Hid (wr.heap[PP]? = some (.cells #[.int .i64 W, .int .i64 H, v] 31 (0, 0))) ∧ Hid (BoxB wr BL bd) ∧ Hid (wr.heap[DD]? = some (.cells #[.int .i64 (zzK k s : Nat)] 71 (0, 0))) ∧ Hid (wr.heap[w.heap.size]? = some (.cells #[.int .i64 0, .int .i64 0, .slice none 0 0] 31 (0, 0))) ∧ RowC wr w.heap.size v (mkL W H cells k s) ∧ Below w.heap.size w wr) (fun i _ => n - (intOf i).toNat)
  case atStart => exact ⟨0, .slice none 0 0, Nat.zero_le _, rfl, by show s < 10007; omega, hP5, hL5, hD5, hE5, RowC.nil _ _, hB5⟩
  case round =>
    clear hP5 hL5 hD5 hE5 hB5
    obtain ⟨k, v, hk, rfl, hz, hPr, hLr, hDr, hEr, hRr, hbr⟩ := hrel
    by_cases hkn : k < n
    · have HSN := Lib.hid (mkL_snoc W H cells k s)
      have HZS := Lib.hid (zzK_snoc k s)
      have HML := Lib.hid (mkL_len W H cells k s)
      obtain ⟨av, cv, hv⟩ := hRr.shape
      subst hv
      generalize zzK k s = z at *
      have hzz := zzN_lt z
      have HC := Lib.hid (fun w' hg => HD.out (mkL W H cells k s).length cv DD z av 71 w' hz hg)
      generalize mkC W H cells z = c at *
      generalize mkL W H cells k s = L at *
      unfold valC at HC
      have hlP : PP < wr.heap.size := block_lt hPr.out
      have hlB : BL < wr.heap.size := hLr.out.lt
      have hlD : DD < wr.heap.size := block_lt hDr.out
      have hlE : w.heap.size < wr.heap.size := block_lt hEr.out
      have hPA : wr.drew.heap[PP]? = some (.cells #[.int .i64 W, .int .i64 H, .slice av L.length cv] 31 (0, 0)) := hPr.out
      have hLA : BoxB wr.drew BL bd := hLr.out
      have hDA : wr.drew.heap[DD]? = some (.cells #[.int .i64 (z : Nat)] 71 (0, 0)) := hDr.out
      have hEA : wr.drew.heap[w.heap.size]? = some (.cells #[.int .i64 0, .int .i64 0, .slice none 0 0] 31 (0, 0)) := hEr.out
      have hRA : RowC wr.drew w.heap.size (.slice av L.length cv) L := hRr
      have hBA : Below w.heap.size w wr.drew := hbr.trans ((Below.refl w.heap.size wr).drew)
      have hsA : wr.drew.heap.size = wr.heap.size := rfl
      rw [← hsA] at hlP hlB hlD hlE
      clear hPr hLr hDr hEr hRr hbr hsA
      have hkn2 : (k : Int) < (n : Int) := by omega
      go_upto_region 7 with fail
      refine wp_region_held_drew (S := fun _ => True) (by kernel_rfl) trivial (fun _ => ?_)
      generalize wr.drew = qA at *
      refine wpAnyH_ready (rs := [0, 1, 2]) (by kernel_rfl) (by simp) ?_
      refine AllReadyH.cons rfl (fun K hK => ?_) (AllReadyH.cons rfl (fun K hK => ?_) (AllReadyH.cons rfl (fun K hK => ?_) AllReadyH.nil))
      · skip
        rw [if_pos (by rfl)]
        refine wp_load_mid 31 _ rfl PP 0 rfl [.int .i64 W, .int .i64 H, .slice av L.length cv] _ (range3 (cell_of_block hPA 0) (cell_of_block hPA 1) (cell_of_block hPA 2)) Tryd.underlying31 rfl infPuz ?_
        refine hK.out _ _ trivial (fun _ => ?_)
        clear hK K
        refine wpAnyH_ready (rs := [1, 2]) (by kernel_rfl) (by simp) ?_
        refine AllReadyH.cons rfl (fun K hK => ?_) (AllReadyH.cons rfl (fun K hK => ?_) AllReadyH.nil)
        · skip
          rw [if_pos (by rfl)]
          refine wp_load_mid 31 _ rfl PP 0 rfl [.int .i64 W, .int .i64 H, .slice av L.length cv] _ (range3 (cell_of_block hPA 0) (cell_of_block hPA 1) (cell_of_block hPA 2)) Tryd.underlying31 rfl infPuz ?_
          refine hK.out _ _ trivial (fun _ => ?_)
          clear hK K
          refine wpAnyH_ready (rs := [2]) (by kernel_rfl) (by simp) ?_
          refine AllReadyH.cons rfl (fun K hK => ?_) AllReadyH.nil
          · skip
            rw [if_pos (by rfl)]
            refine wp_load_mid 65 _ rfl BL 0 rfl (encB bd) _ hLA.1 Tryd.underlying65 rfl (inf67.trans (by rw [encB_len])) ?_
            refine hK.out _ _ trivial (fun _ => ?_)
            clear hK K
            refine wpAnyH_ready (rs := [3]) (by kernel_rfl) (by simp) ?_
            refine AllReadyH.cons rfl (fun K hK => ?_) AllReadyH.nil
            · skip
              go_simp
              refine (HC.out qA hDA).mono ?_
              rintro e qB ⟨rfl, hDB, hsp⟩
              have hPB := (hsp.2 PP hlP h13).trans hPA
              have hLB := hLA.heap (hsp.2 BL hlB h23)
              have hEB := (hsp.2 w.heap.size hlE (by omega)).trans hEA
              have hRB := hRA.spare hDA (by decide) hsp
              have hBB := hBA.trans (hsp.1 w.heap.size (by omega))
              go_wp2_with fail
              refine hK.out _ _ trivial (fun _ => ?_)
              clear hK K
              clear hPA hLA hDA hEA hRA hBA hsp
              refine wpAnyH_ready (rs := [4]) (by kernel_rfl) (by simp) ?_
              refine AllReadyH.cons rfl (fun K hK => ?_) AllReadyH.nil
              · skip
                go_simp
                have hbk : Below qB.heap.size qB (qB.alloc (.cells #[.int .i64 c.k, .int .i64 c.a, .int .i64 c.b] 26)) := (Below.refl _ _).alloc (Nat.le_refl _) _
                have hPC := (hbk.block _ (block_lt hPB)).trans hPB
                have hLC := hLB.later hbk
                have hDC := (hbk.block _ (block_lt hDB)).trans hDB
                have hEC := (hbk.block _ (block_lt hEB)).trans hEB
                have hRC := hRB.below hbk
                have hBC := hBB.trans (hbk.mono hBB.size)
                have hAC := at_clue qB c 26
                refine hK.out _ _ trivial (fun _ => ?_)
                clear hK K
                clear hbk hPB hLB hDB hEB hRB hBB
                generalize qB.alloc (.cells #[.int .i64 c.k, .int .i64 c.a, .int .i64 c.b] 26) = qC at *
                generalize qB.heap.size = NC at *
                refine wpAnyH_ready (rs := [5]) (by kernel_rfl) (by simp) ?_
                refine AllReadyH.cons rfl (fun K hK => ?_) AllReadyH.nil
                go_simp
                refine (with_any (W : Int) H w.heap.size L.length cv av L [c] (some ⟨NC, 0, none⟩) 1 1 qC hRC rfl hAC hBC.size (by have := HML.out; simp; omega)).mono ?_
                rintro e qD ⟨vn, rfl, hRD, hbk⟩
                obtain ⟨an, nn, cn, hvn⟩ : ∃ a n c, vn = .slice a n c := by obtain ⟨a, c, h⟩ := hRD.shape; exact ⟨a, _, c, h⟩
                subst hvn
                have hPD := (hbk.block _ (block_lt hPC)).trans hPC
                have hLD := hLC.later hbk
                have hDD := (hbk.block _ (block_lt hDC)).trans hDC
                have hED := (hbk.block _ (block_lt hEC)).trans hEC
                have hBD := hBC.trans (hbk.mono hBC.size)
                go_wp2_with fail
                refine hK.out _ _ trivial (fun _ => ?_)
                clear hK K
                clear hbk hPC hLC hDC hEC hRC hBC hAC
                have y0 := cell_of_block hPD 0
                have y1 := cell_of_block hPD 1
                have y2 := cell_of_block hPD 2
                have yf := frozen_of_block hPD
                simp at y0 y1 y2
                obtain ⟨hPE, hbE⟩ := puzzle_stored (B := w.heap.size) hPD (by omega) (.int .i64 W) (.int .i64 H) (.slice an nn cn)
                have hO : ∀ b, b ≠ PP → (((qD.setCell ⟨PP, 0, none⟩ (.int .i64 W)).setCell ⟨PP, 1, none⟩ (.int .i64 H)).setCell ⟨PP, 2, none⟩ (.slice an nn cn)).heap[b]? = qD.heap[b]? := fun b hb => (away_setC hb).trans ((away_setC hb).trans (away_setC hb))
                have hLE : Hid (BoxB (((qD.setCell ⟨PP, 0, none⟩ (.int .i64 W)).setCell ⟨PP, 1, none⟩ (.int .i64 H)).setCell ⟨PP, 2, none⟩ (.slice an nn cn)) BL bd) := hLD.heap (hO BL (fun h => h12 h.symm))
                have hDE : Hid ((((qD.setCell ⟨PP, 0, none⟩ (.int .i64 W)).setCell ⟨PP, 1, none⟩ (.int .i64 H)).setCell ⟨PP, 2, none⟩ (.slice an nn cn)).heap[DD]? = some (.cells #[.int .i64 (zzN z : Nat)] 71 (0, 0))) := (hO DD (fun h => h13 h.symm)).trans hDD
                have hEE : Hid ((((qD.setCell ⟨PP, 0, none⟩ (.int .i64 W)).setCell ⟨PP, 1, none⟩ (.int .i64 H)).setCell ⟨PP, 2, none⟩ (.slice an nn cn)).heap[w.heap.size]? = some (.cells #[.int .i64 0, .int .i64 0, .slice none 0 0] 31 (0, 0))) := (hO w.heap.size (by omega)).trans hED
                have hRE := hRD.put3 (x := .int .i64 W) (y := .int .i64 H) (z := .slice an nn cn) hPD
                rw [← HSN.out] at hRE
                have hBE := hBD.trans hbE
                refine wpAnyH_ready (rs := [6]) (by kernel_rfl) (by simp) ?_
                refine AllReadyH.cons rfl (fun K hK => ?_) AllReadyH.nil
                go_simp
                refine hK.out _ _ trivial (fun _ => ?_)
                clear hK K
                refine wpAnyH_done (by kernel_rfl) ?_ _
                go_wp2_with fail
                go_roundw
                case rel => exact ⟨k + 1, .slice an nn cn, by omega, by go_num, by rw [HZS.out]; exact hzz, hPE, hLE, by rw [HZS.out]; exact hDE, hEE, hRE, hBE⟩
                case measure => simp [intOf]; omega
        · skip
          rw [if_pos (by rfl)]
          refine wp_load_mid 65 _ rfl BL 0 rfl (encB bd) _ hLA.1 Tryd.underlying65 rfl (inf67.trans (by rw [encB_len])) ?_
          refine hK.out _ _ trivial (fun _ => ?_)
          clear hK K
          refine wpAnyH_ready (rs := [1]) (by kernel_rfl) (by simp) ?_
          refine AllReadyH.cons rfl (fun K hK => ?_) AllReadyH.nil
          · skip
            rw [if_pos (by rfl)]
            refine wp_load_mid 31 _ rfl PP 0 rfl [.int .i64 W, .int .i64 H, .slice av L.length cv] _ (range3 (cell_of_block hPA 0) (cell_of_block hPA 1) (cell_of_block hPA 2)) Tryd.underlying31 rfl infPuz ?_
            refine hK.out _ _ trivial (fun _ => ?_)
            clear hK K
            refine wpAnyH_ready (rs := [3]) (by kernel_rfl) (by simp) ?_
            refine AllReadyH.cons rfl (fun K hK => ?_) AllReadyH.nil
            · skip
              go_simp
              refine (HC.out qA hDA).mono ?_
              rintro e qB ⟨rfl, hDB, hsp⟩
              have hPB := (hsp.2 PP hlP h13).trans hPA
              have hLB := hLA.heap (hsp.2 BL hlB h23)
              have hEB := (hsp.2 w.heap.size hlE (by omega)).trans hEA
              have hRB := hRA.spare hDA (by decide) hsp
              have hBB := hBA.trans (hsp.1 w.heap.size (by omega))
              go_wp2_with fail
              refine hK.out _ _ trivial (fun _ => ?_)
              clear hK K
              clear hPA hLA hDA hEA hRA hBA hsp
              refine wpAnyH_ready (rs := [4]) (by kernel_rfl) (by simp) ?_
              refine AllReadyH.cons rfl (fun K hK => ?_) AllReadyH.nil
              · skip
                go_simp
                have hbk : Below qB.heap.size qB (qB.alloc (.cells #[.int .i64 c.k, .int .i64 c.a, .int .i64 c.b] 26)) := (Below.refl _ _).alloc (Nat.le_refl _) _
                have hPC := (hbk.block _ (block_lt hPB)).trans hPB
                have hLC := hLB.later hbk
                have hDC := (hbk.block _ (block_lt hDB)).trans hDB
                have hEC := (hbk.block _ (block_lt hEB)).trans hEB
                have hRC := hRB.below hbk
                have hBC := hBB.trans (hbk.mono hBB.size)
                have hAC := at_clue qB c 26
                refine hK.out _ _ trivial (fun _ => ?_)
                clear hK K
                clear hbk hPB hLB hDB hEB hRB hBB
                generalize qB.alloc (.cells #[.int .i64 c.k, .int .i64 c.a, .int .i64 c.b] 26) = qC at *
                generalize qB.heap.size = NC at *
                refine wpAnyH_ready (rs := [5]) (by kernel_rfl) (by simp) ?_
                refine AllReadyH.cons rfl (fun K hK => ?_) AllReadyH.nil
                go_simp
                refine (with_any (W : Int) H w.heap.size L.length cv av L [c] (some ⟨NC, 0, none⟩) 1 1 qC hRC rfl hAC hBC.size (by have := HML.out; simp; omega)).mono ?_
                rintro e qD ⟨vn, rfl, hRD, hbk⟩
                obtain ⟨an, nn, cn, hvn⟩ : ∃ a n c, vn = .slice a n c := by obtain ⟨a, c, h⟩ := hRD.shape; exact ⟨a, _, c, h⟩
                subst hvn
                have hPD := (hbk.block _ (block_lt hPC)).trans hPC
                have hLD := hLC.later hbk
                have hDD := (hbk.block _ (block_lt hDC)).trans hDC
                have hED := (hbk.block _ (block_lt hEC)).trans hEC
                have hBD := hBC.trans (hbk.mono hBC.size)
                go_wp2_with fail
                refine hK.out _ _ trivial (fun _ => ?_)
                clear hK K
                clear hbk hPC hLC hDC hEC hRC hBC hAC
                have y0 := cell_of_block hPD 0
                have y1 := cell_of_block hPD 1
                have y2 := cell_of_block hPD 2
                have yf := frozen_of_block hPD
                simp at y0 y1 y2
                obtain ⟨hPE, hbE⟩ := puzzle_stored (B := w.heap.size) hPD (by omega) (.int .i64 W) (.int .i64 H) (.slice an nn cn)
                have hO : ∀ b, b ≠ PP → (((qD.setCell ⟨PP, 0, none⟩ (.int .i64 W)).setCell ⟨PP, 1, none⟩ (.int .i64 H)).setCell ⟨PP, 2, none⟩ (.slice an nn cn)).heap[b]? = qD.heap[b]? := fun b hb => (away_setC hb).trans ((away_setC hb).trans (away_setC hb))
                have hLE : Hid (BoxB (((qD.setCell ⟨PP, 0, none⟩ (.int .i64 W)).setCell ⟨PP, 1, none⟩ (.int .i64 H)).setCell ⟨PP, 2, none⟩ (.slice an nn cn)) BL bd) := hLD.heap (hO BL (fun h => h12 h.symm))
                have hDE : Hid ((((qD.setCell ⟨PP, 0, none⟩ (.int .i64 W)).setCell ⟨PP, 1, none⟩ (.int .i64 H)).setCell ⟨PP, 2, none⟩ (.slice an nn cn)).heap[DD]? = some (.cells #[.int .i64 (zzN z : Nat)] 71 (0, 0))) := (hO DD (fun h => h13 h.symm)).trans hDD
                have hEE : Hid ((((qD.setCell ⟨PP, 0, none⟩ (.int .i64 W)).setCell ⟨PP, 1, none⟩ (.int .i64 H)).setCell ⟨PP, 2, none⟩ (.slice an nn cn)).heap[w.heap.size]? = some (.cells #[.int .i64 0, .int .i64 0, .slice none 0 0] 31 (0, 0))) := (hO w.heap.size (by omega)).trans hED
                have hRE := hRD.put3 (x := .int .i64 W) (y := .int .i64 H) (z := .slice an nn cn) hPD
                rw [← HSN.out] at hRE
                have hBE := hBD.trans hbE
                refine wpAnyH_ready (rs := [6]) (by kernel_rfl) (by simp) ?_
                refine AllReadyH.cons rfl (fun K hK => ?_) AllReadyH.nil
                go_simp
                refine hK.out _ _ trivial (fun _ => ?_)
                clear hK K
                refine wpAnyH_done (by kernel_rfl) ?_ _
                go_wp2_with fail
                go_roundw
                case rel => exact ⟨k + 1, .slice an nn cn, by omega, by go_num, by rw [HZS.out]; exact hzz, hPE, hLE, by rw [HZS.out]; exact hDE, hEE, hRE, hBE⟩
                case measure => simp [intOf]; omega
      · skip
        rw [if_pos (by rfl)]
        refine wp_load_mid 31 _ rfl PP 0 rfl [.int .i64 W, .int .i64 H, .slice av L.length cv] _ (range3 (cell_of_block hPA 0) (cell_of_block hPA 1) (cell_of_block hPA 2)) Tryd.underlying31 rfl infPuz ?_
        refine hK.out _ _ trivial (fun _ => ?_)
        clear hK K
        refine wpAnyH_ready (rs := [0, 2]) (by kernel_rfl) (by simp) ?_
        refine AllReadyH.cons rfl (fun K hK => ?_) (AllReadyH.cons rfl (fun K hK => ?_) AllReadyH.nil)
        · skip
          rw [if_pos (by rfl)]
          refine wp_load_mid 31 _ rfl PP 0 rfl [.int .i64 W, .int .i64 H, .slice av L.length cv] _ (range3 (cell_of_block hPA 0) (cell_of_block hPA 1) (cell_of_block hPA 2)) Tryd.underlying31 rfl infPuz ?_
          refine hK.out _ _ trivial (fun _ => ?_)
          clear hK K
          refine wpAnyH_ready (rs := [2]) (by kernel_rfl) (by simp) ?_
          refine AllReadyH.cons rfl (fun K hK => ?_) AllReadyH.nil
          · skip
            rw [if_pos (by rfl)]
            refine wp_load_mid 65 _ rfl BL 0 rfl (encB bd) _ hLA.1 Tryd.underlying65 rfl (inf67.trans (by rw [encB_len])) ?_
            refine hK.out _ _ trivial (fun _ => ?_)
            clear hK K
            refine wpAnyH_ready (rs := [3]) (by kernel_rfl) (by simp) ?_
            refine AllReadyH.cons rfl (fun K hK => ?_) AllReadyH.nil
            · skip
              go_simp
              refine (HC.out qA hDA).mono ?_
              rintro e qB ⟨rfl, hDB, hsp⟩
              have hPB := (hsp.2 PP hlP h13).trans hPA
              have hLB := hLA.heap (hsp.2 BL hlB h23)
              have hEB := (hsp.2 w.heap.size hlE (by omega)).trans hEA
              have hRB := hRA.spare hDA (by decide) hsp
              have hBB := hBA.trans (hsp.1 w.heap.size (by omega))
              go_wp2_with fail
              refine hK.out _ _ trivial (fun _ => ?_)
              clear hK K
              clear hPA hLA hDA hEA hRA hBA hsp
              refine wpAnyH_ready (rs := [4]) (by kernel_rfl) (by simp) ?_
              refine AllReadyH.cons rfl (fun K hK => ?_) AllReadyH.nil
              · skip
                go_simp
                have hbk : Below qB.heap.size qB (qB.alloc (.cells #[.int .i64 c.k, .int .i64 c.a, .int .i64 c.b] 26)) := (Below.refl _ _).alloc (Nat.le_refl _) _
                have hPC := (hbk.block _ (block_lt hPB)).trans hPB
                have hLC := hLB.later hbk
                have hDC := (hbk.block _ (block_lt hDB)).trans hDB
                have hEC := (hbk.block _ (block_lt hEB)).trans hEB
                have hRC := hRB.below hbk
                have hBC := hBB.trans (hbk.mono hBB.size)
                have hAC := at_clue qB c 26
                refine hK.out _ _ trivial (fun _ => ?_)
                clear hK K
                clear hbk hPB hLB hDB hEB hRB hBB
                generalize qB.alloc (.cells #[.int .i64 c.k, .int .i64 c.a, .int .i64 c.b] 26) = qC at *
                generalize qB.heap.size = NC at *
                refine wpAnyH_ready (rs := [5]) (by kernel_rfl) (by simp) ?_
                refine AllReadyH.cons rfl (fun K hK => ?_) AllReadyH.nil
                go_simp
                refine (with_any (W : Int) H w.heap.size L.length cv av L [c] (some ⟨NC, 0, none⟩) 1 1 qC hRC rfl hAC hBC.size (by have := HML.out; simp; omega)).mono ?_
                rintro e qD ⟨vn, rfl, hRD, hbk⟩
                obtain ⟨an, nn, cn, hvn⟩ : ∃ a n c, vn = .slice a n c := by obtain ⟨a, c, h⟩ := hRD.shape; exact ⟨a, _, c, h⟩
                subst hvn
                have hPD := (hbk.block _ (block_lt hPC)).trans hPC
                have hLD := hLC.later hbk
                have hDD := (hbk.block _ (block_lt hDC)).trans hDC
                have hED := (hbk.block _ (block_lt hEC)).trans hEC
                have hBD := hBC.trans (hbk.mono hBC.size)
                go_wp2_with fail
                refine hK.out _ _ trivial (fun _ => ?_)
                clear hK K
                clear hbk hPC hLC hDC hEC hRC hBC hAC
                have y0 := cell_of_block hPD 0
                have y1 := cell_of_block hPD 1
                have y2 := cell_of_block hPD 2
                have yf := frozen_of_block hPD
                simp at y0 y1 y2
                obtain ⟨hPE, hbE⟩ := puzzle_stored (B := w.heap.size) hPD (by omega) (.int .i64 W) (.int .i64 H) (.slice an nn cn)
                have hO : ∀ b, b ≠ PP → (((qD.setCell ⟨PP, 0, none⟩ (.int .i64 W)).setCell ⟨PP, 1, none⟩ (.int .i64 H)).setCell ⟨PP, 2, none⟩ (.slice an nn cn)).heap[b]? = qD.heap[b]? := fun b hb => (away_setC hb).trans ((away_setC hb).trans (away_setC hb))
                have hLE : Hid (BoxB (((qD.setCell ⟨PP, 0, none⟩ (.int .i64 W)).setCell ⟨PP, 1, none⟩ (.int .i64 H)).setCell ⟨PP, 2, none⟩ (.slice an nn cn)) BL bd) := hLD.heap (hO BL (fun h => h12 h.symm))
                have hDE : Hid ((((qD.setCell ⟨PP, 0, none⟩ (.int .i64 W)).setCell ⟨PP, 1, none⟩ (.int .i64 H)).setCell ⟨PP, 2, none⟩ (.slice an nn cn)).heap[DD]? = some (.cells #[.int .i64 (zzN z : Nat)] 71 (0, 0))) := (hO DD (fun h => h13 h.symm)).trans hDD
                have hEE : Hid ((((qD.setCell ⟨PP, 0, none⟩ (.int .i64 W)).setCell ⟨PP, 1, none⟩ (.int .i64 H)).setCell ⟨PP, 2, none⟩ (.slice an nn cn)).heap[w.heap.size]? = some (.cells #[.int .i64 0, .int .i64 0, .slice none 0 0] 31 (0, 0))) := (hO w.heap.size (by omega)).trans hED
                have hRE := hRD.put3 (x := .int .i64 W) (y := .int .i64 H) (z := .slice an nn cn) hPD
                rw [← HSN.out] at hRE
                have hBE := hBD.trans hbE
                refine wpAnyH_ready (rs := [6]) (by kernel_rfl) (by simp) ?_
                refine AllReadyH.cons rfl (fun K hK => ?_) AllReadyH.nil
                go_simp
                refine hK.out _ _ trivial (fun _ => ?_)
                clear hK K
                refine wpAnyH_done (by kernel_rfl) ?_ _
                go_wp2_with fail
                go_roundw
                case rel => exact ⟨k + 1, .slice an nn cn, by omega, by go_num, by rw [HZS.out]; exact hzz, hPE, hLE, by rw [HZS.out]; exact hDE, hEE, hRE, hBE⟩
                case measure => simp [intOf]; omega
        · skip
          rw [if_pos (by rfl)]
          refine wp_load_mid 65 _ rfl BL 0 rfl (encB bd) _ hLA.1 Tryd.underlying65 rfl (inf67.trans (by rw [encB_len])) ?_
          refine hK.out _ _ trivial (fun _ => ?_)
          clear hK K
          refine wpAnyH_ready (rs := [0, 3]) (by kernel_rfl) (by simp) ?_
          refine AllReadyH.cons rfl (fun K hK => ?_) (AllReadyH.cons rfl (fun K hK => ?_) AllReadyH.nil)
          · skip
            rw [if_pos (by rfl)]
            refine wp_load_mid 31 _ rfl PP 0 rfl [.int .i64 W, .int .i64 H, .slice av L.length cv] _ (range3 (cell_of_block hPA 0) (cell_of_block hPA 1) (cell_of_block hPA 2)) Tryd.underlying31 rfl infPuz ?_
            refine hK.out _ _ trivial (fun _ => ?_)
            clear hK K
            refine wpAnyH_ready (rs := [3]) (by kernel_rfl) (by simp) ?_
            refine AllReadyH.cons rfl (fun K hK => ?_) AllReadyH.nil
            · skip
              go_simp
              refine (HC.out qA hDA).mono ?_
              rintro e qB ⟨rfl, hDB, hsp⟩
              have hPB := (hsp.2 PP hlP h13).trans hPA
              have hLB := hLA.heap (hsp.2 BL hlB h23)
              have hEB := (hsp.2 w.heap.size hlE (by omega)).trans hEA
              have hRB := hRA.spare hDA (by decide) hsp
              have hBB := hBA.trans (hsp.1 w.heap.size (by omega))
              go_wp2_with fail
              refine hK.out _ _ trivial (fun _ => ?_)
              clear hK K
              clear hPA hLA hDA hEA hRA hBA hsp
              refine wpAnyH_ready (rs := [4]) (by kernel_rfl) (by simp) ?_
              refine AllReadyH.cons rfl (fun K hK => ?_) AllReadyH.nil
              · skip
                go_simp
                have hbk : Below qB.heap.size qB (qB.alloc (.cells #[.int .i64 c.k, .int .i64 c.a, .int .i64 c.b] 26)) := (Below.refl _ _).alloc (Nat.le_refl _) _
                have hPC := (hbk.block _ (block_lt hPB)).trans hPB
                have hLC := hLB.later hbk
                have hDC := (hbk.block _ (block_lt hDB)).trans hDB
                have hEC := (hbk.block _ (block_lt hEB)).trans hEB
                have hRC := hRB.below hbk
                have hBC := hBB.trans (hbk.mono hBB.size)
                have hAC := at_clue qB c 26
                refine hK.out _ _ trivial (fun _ => ?_)
                clear hK K
                clear hbk hPB hLB hDB hEB hRB hBB
                generalize qB.alloc (.cells #[.int .i64 c.k, .int .i64 c.a, .int .i64 c.b] 26) = qC at *
                generalize qB.heap.size = NC at *
                refine wpAnyH_ready (rs := [5]) (by kernel_rfl) (by simp) ?_
                refine AllReadyH.cons rfl (fun K hK => ?_) AllReadyH.nil
                go_simp
                refine (with_any (W : Int) H w.heap.size L.length cv av L [c] (some ⟨NC, 0, none⟩) 1 1 qC hRC rfl hAC hBC.size (by have := HML.out; simp; omega)).mono ?_
                rintro e qD ⟨vn, rfl, hRD, hbk⟩
                obtain ⟨an, nn, cn, hvn⟩ : ∃ a n c, vn = .slice a n c := by obtain ⟨a, c, h⟩ := hRD.shape; exact ⟨a, _, c, h⟩
                subst hvn
                have hPD := (hbk.block _ (block_lt hPC)).trans hPC
                have hLD := hLC.later hbk
                have hDD := (hbk.block _ (block_lt hDC)).trans hDC
                have hED := (hbk.block _ (block_lt hEC)).trans hEC
                have hBD := hBC.trans (hbk.mono hBC.size)
                go_wp2_with fail
                refine hK.out _ _ trivial (fun _ => ?_)
                clear hK K
                clear hbk hPC hLC hDC hEC hRC hBC hAC
                have y0 := cell_of_block hPD 0
                have y1 := cell_of_block hPD 1
                have y2 := cell_of_block hPD 2
                have yf := frozen_of_block hPD
                simp at y0 y1 y2
                obtain ⟨hPE, hbE⟩ := puzzle_stored (B := w.heap.size) hPD (by omega) (.int .i64 W) (.int .i64 H) (.slice an nn cn)
                have hO : ∀ b, b ≠ PP → (((qD.setCell ⟨PP, 0, none⟩ (.int .i64 W)).setCell ⟨PP, 1, none⟩ (.int .i64 H)).setCell ⟨PP, 2, none⟩ (.slice an nn cn)).heap[b]? = qD.heap[b]? := fun b hb => (away_setC hb).trans ((away_setC hb).trans (away_setC hb))
                have hLE : Hid (BoxB (((qD.setCell ⟨PP, 0, none⟩ (.int .i64 W)).setCell ⟨PP, 1, none⟩ (.int .i64 H)).setCell ⟨PP, 2, none⟩ (.slice an nn cn)) BL bd) := hLD.heap (hO BL (fun h => h12 h.symm))
                have hDE : Hid ((((qD.setCell ⟨PP, 0, none⟩ (.int .i64 W)).setCell ⟨PP, 1, none⟩ (.int .i64 H)).setCell ⟨PP, 2, none⟩ (.slice an nn cn)).heap[DD]? = some (.cells #[.int .i64 (zzN z : Nat)] 71 (0, 0))) := (hO DD (fun h => h13 h.symm)).trans hDD
                have hEE : Hid ((((qD.setCell ⟨PP, 0, none⟩ (.int .i64 W)).setCell ⟨PP, 1, none⟩ (.int .i64 H)).setCell ⟨PP, 2, none⟩ (.slice an nn cn)).heap[w.heap.size]? = some (.cells #[.int .i64 0, .int .i64 0, .slice none 0 0] 31 (0, 0))) := (hO w.heap.size (by omega)).trans hED
                have hRE := hRD.put3 (x := .int .i64 W) (y := .int .i64 H) (z := .slice an nn cn) hPD
                rw [← HSN.out] at hRE
                have hBE := hBD.trans hbE
                refine wpAnyH_ready (rs := [6]) (by kernel_rfl) (by simp) ?_
                refine AllReadyH.cons rfl (fun K hK => ?_) AllReadyH.nil
                go_simp
                refine hK.out _ _ trivial (fun _ => ?_)
                clear hK K
                refine wpAnyH_done (by kernel_rfl) ?_ _
                go_wp2_with fail
                go_roundw
                case rel => exact ⟨k + 1, .slice an nn cn, by omega, by go_num, by rw [HZS.out]; exact hzz, hPE, hLE, by rw [HZS.out]; exact hDE, hEE, hRE, hBE⟩
                case measure => simp [intOf]; omega
          · skip
            go_simp
            refine (HC.out qA hDA).mono ?_
            rintro e qB ⟨rfl, hDB, hsp⟩
            have hPB := (hsp.2 PP hlP h13).trans hPA
            have hLB := hLA.heap (hsp.2 BL hlB h23)
            have hEB := (hsp.2 w.heap.size hlE (by omega)).trans hEA
            have hRB := hRA.spare hDA (by decide) hsp
            have hBB := hBA.trans (hsp.1 w.heap.size (by omega))
            go_wp2_with fail
            refine hK.out _ _ trivial (fun _ => ?_)
            clear hK K
            clear hPA hLA hDA hEA hRA hBA hsp
            refine wpAnyH_ready (rs := [0, 4]) (by kernel_rfl) (by simp) ?_
            refine AllReadyH.cons rfl (fun K hK => ?_) (AllReadyH.cons rfl (fun K hK => ?_) AllReadyH.nil)
            · skip
              rw [if_pos (by rfl)]
              refine wp_load_mid 31 _ rfl PP 0 rfl [.int .i64 W, .int .i64 H, .slice av L.length cv] _ (range3 (cell_of_block hPB 0) (cell_of_block hPB 1) (cell_of_block hPB 2)) Tryd.underlying31 rfl infPuz ?_
              refine hK.out _ _ trivial (fun _ => ?_)
              clear hK K
              refine wpAnyH_ready (rs := [4]) (by kernel_rfl) (by simp) ?_
              refine AllReadyH.cons rfl (fun K hK => ?_) AllReadyH.nil
              · skip
                go_simp
                have hbk : Below qB.heap.size qB (qB.alloc (.cells #[.int .i64 c.k, .int .i64 c.a, .int .i64 c.b] 26)) := (Below.refl _ _).alloc (Nat.le_refl _) _
                have hPC := (hbk.block _ (block_lt hPB)).trans hPB
                have hLC := hLB.later hbk
                have hDC := (hbk.block _ (block_lt hDB)).trans hDB
                have hEC := (hbk.block _ (block_lt hEB)).trans hEB
                have hRC := hRB.below hbk
                have hBC := hBB.trans (hbk.mono hBB.size)
                have hAC := at_clue qB c 26
                refine hK.out _ _ trivial (fun _ => ?_)
                clear hK K
                clear hbk hPB hLB hDB hEB hRB hBB
                generalize qB.alloc (.cells #[.int .i64 c.k, .int .i64 c.a, .int .i64 c.b] 26) = qC at *
                generalize qB.heap.size = NC at *
                refine wpAnyH_ready (rs := [5]) (by kernel_rfl) (by simp) ?_
                refine AllReadyH.cons rfl (fun K hK => ?_) AllReadyH.nil
                go_simp
                refine (with_any (W : Int) H w.heap.size L.length cv av L [c] (some ⟨NC, 0, none⟩) 1 1 qC hRC rfl hAC hBC.size (by have := HML.out; simp; omega)).mono ?_
                rintro e qD ⟨vn, rfl, hRD, hbk⟩
                obtain ⟨an, nn, cn, hvn⟩ : ∃ a n c, vn = .slice a n c := by obtain ⟨a, c, h⟩ := hRD.shape; exact ⟨a, _, c, h⟩
                subst hvn
                have hPD := (hbk.block _ (block_lt hPC)).trans hPC
                have hLD := hLC.later hbk
                have hDD := (hbk.block _ (block_lt hDC)).trans hDC
                have hED := (hbk.block _ (block_lt hEC)).trans hEC
                have hBD := hBC.trans (hbk.mono hBC.size)
                go_wp2_with fail
                refine hK.out _ _ trivial (fun _ => ?_)
                clear hK K
                clear hbk hPC hLC hDC hEC hRC hBC hAC
                have y0 := cell_of_block hPD 0
                have y1 := cell_of_block hPD 1
                have y2 := cell_of_block hPD 2
                have yf := frozen_of_block hPD
                simp at y0 y1 y2
                obtain ⟨hPE, hbE⟩ := puzzle_stored (B := w.heap.size) hPD (by omega) (.int .i64 W) (.int .i64 H) (.slice an nn cn)
                have hO : ∀ b, b ≠ PP → (((qD.setCell ⟨PP, 0, none⟩ (.int .i64 W)).setCell ⟨PP, 1, none⟩ (.int .i64 H)).setCell ⟨PP, 2, none⟩ (.slice an nn cn)).heap[b]? = qD.heap[b]? := fun b hb => (away_setC hb).trans ((away_setC hb).trans (away_setC hb))
                have hLE : Hid (BoxB (((qD.setCell ⟨PP, 0, none⟩ (.int .i64 W)).setCell ⟨PP, 1, none⟩ (.int .i64 H)).setCell ⟨PP, 2, none⟩ (.slice an nn cn)) BL bd) := hLD.heap (hO BL (fun h => h12 h.symm))
                have hDE : Hid ((((qD.setCell ⟨PP, 0, none⟩ (.int .i64 W)).setCell ⟨PP, 1, none⟩ (.int .i64 H)).setCell ⟨PP, 2, none⟩ (.slice an nn cn)).heap[DD]? = some (.cells #[.int .i64 (zzN z : Nat)] 71 (0, 0))) := (hO DD (fun h => h13 h.symm)).trans hDD
                have hEE : Hid ((((qD.setCell ⟨PP, 0, none⟩ (.int .i64 W)).setCell ⟨PP, 1, none⟩ (.int .i64 H)).setCell ⟨PP, 2, none⟩ (.slice an nn cn)).heap[w.heap.size]? = some (.cells #[.int .i64 0, .int .i64 0, .slice none 0 0] 31 (0, 0))) := (hO w.heap.size (by omega)).trans hED
                have hRE := hRD.put3 (x := .int .i64 W) (y := .int .i64 H) (z := .slice an nn cn) hPD
                rw [← HSN.out] at hRE
                have hBE := hBD.trans hbE
                refine wpAnyH_ready (rs := [6]) (by kernel_rfl) (by simp) ?_
                refine AllReadyH.cons rfl (fun K hK => ?_) AllReadyH.nil
                go_simp
                refine hK.out _ _ trivial (fun _ => ?_)
                clear hK K
                refine wpAnyH_done (by kernel_rfl) ?_ _
                go_wp2_with fail
                go_roundw
                case rel => exact ⟨k + 1, .slice an nn cn, by omega, by go_num, by rw [HZS.out]; exact hzz, hPE, hLE, by rw [HZS.out]; exact hDE, hEE, hRE, hBE⟩
                case measure => simp [intOf]; omega
            · skip
              go_simp
              have hbk : Below qB.heap.size qB (qB.alloc (.cells #[.int .i64 c.k, .int .i64 c.a, .int .i64 c.b] 26)) := (Below.refl _ _).alloc (Nat.le_refl _) _
              have hPC := (hbk.block _ (block_lt hPB)).trans hPB
              have hLC := hLB.later hbk
              have hDC := (hbk.block _ (block_lt hDB)).trans hDB
              have hEC := (hbk.block _ (block_lt hEB)).trans hEB
              have hRC := hRB.below hbk
              have hBC := hBB.trans (hbk.mono hBB.size)
              have hAC := at_clue qB c 26
              refine hK.out _ _ trivial (fun _ => ?_)
              clear hK K
              clear hbk hPB hLB hDB hEB hRB hBB
              generalize qB.alloc (.cells #[.int .i64 c.k, .int .i64 c.a, .int .i64 c.b] 26) = qC at *
              generalize qB.heap.size = NC at *
              refine wpAnyH_ready (rs := [0]) (by kernel_rfl) (by simp) ?_
              refine AllReadyH.cons rfl (fun K hK => ?_) AllReadyH.nil
              · skip
                rw [if_pos (by rfl)]
                refine wp_load_mid 31 _ rfl PP 0 rfl [.int .i64 W, .int .i64 H, .slice av L.length cv] _ (range3 (cell_of_block hPC 0) (cell_of_block hPC 1) (cell_of_block hPC 2)) Tryd.underlying31 rfl infPuz ?_
                refine hK.out _ _ trivial (fun _ => ?_)
                clear hK K
                refine wpAnyH_ready (rs := [5]) (by kernel_rfl) (by simp) ?_
                refine AllReadyH.cons rfl (fun K hK => ?_) AllReadyH.nil
                go_simp
                refine (with_any (W : Int) H w.heap.size L.length cv av L [c] (some ⟨NC, 0, none⟩) 1 1 qC hRC rfl hAC hBC.size (by have := HML.out; simp; omega)).mono ?_
                rintro e qD ⟨vn, rfl, hRD, hbk⟩
                obtain ⟨an, nn, cn, hvn⟩ : ∃ a n c, vn = .slice a n c := by obtain ⟨a, c, h⟩ := hRD.shape; exact ⟨a, _, c, h⟩
                subst hvn
                have hPD := (hbk.block _ (block_lt hPC)).trans hPC
                have hLD := hLC.later hbk
                have hDD := (hbk.block _ (block_lt hDC)).trans hDC
                have hED := (hbk.block _ (block_lt hEC)).trans hEC
                have hBD := hBC.trans (hbk.mono hBC.size)
                go_wp2_with fail
                refine hK.out _ _ trivial (fun _ => ?_)
                clear hK K
                clear hbk hPC hLC hDC hEC hRC hBC hAC
                have y0 := cell_of_block hPD 0
                have y1 := cell_of_block hPD 1
                have y2 := cell_of_block hPD 2
                have yf := frozen_of_block hPD
                simp at y0 y1 y2
                obtain ⟨hPE, hbE⟩ := puzzle_stored (B := w.heap.size) hPD (by omega) (.int .i64 W) (.int .i64 H) (.slice an nn cn)
                have hO : ∀ b, b ≠ PP → (((qD.setCell ⟨PP, 0, none⟩ (.int .i64 W)).setCell ⟨PP, 1, none⟩ (.int .i64 H)).setCell ⟨PP, 2, none⟩ (.slice an nn cn)).heap[b]? = qD.heap[b]? := fun b hb => (away_setC hb).trans ((away_setC hb).trans (away_setC hb))
                have hLE : Hid (BoxB (((qD.setCell ⟨PP, 0, none⟩ (.int .i64 W)).setCell ⟨PP, 1, none⟩ (.int .i64 H)).setCell ⟨PP, 2, none⟩ (.slice an nn cn)) BL bd) := hLD.heap (hO BL (fun h => h12 h.symm))
                have hDE : Hid ((((qD.setCell ⟨PP, 0, none⟩ (.int .i64 W)).setCell ⟨PP, 1, none⟩ (.int .i64 H)).setCell ⟨PP, 2, none⟩ (.slice an nn cn)).heap[DD]? = some (.cells #[.int .i64 (zzN z : Nat)] 71 (0, 0))) := (hO DD (fun h => h13 h.symm)).trans hDD
                have hEE : Hid ((((qD.setCell ⟨PP, 0, none⟩ (.int .i64 W)).setCell ⟨PP, 1, none⟩ (.int .i64 H)).setCell ⟨PP, 2, none⟩ (.slice an nn cn)).heap[w.heap.size]? = some (.cells #[.int .i64 0, .int .i64 0, .slice none 0 0] 31 (0, 0))) := (hO w.heap.size (by omega)).trans hED
                have hRE := hRD.put3 (x := .int .i64 W) (y := .int .i64 H) (z := .slice an nn cn) hPD
                rw [← HSN.out] at hRE
                have hBE := hBD.trans hbE
                refine wpAnyH_ready (rs := [6]) (by kernel_rfl) (by simp) ?_
                refine AllReadyH.cons rfl (fun K hK => ?_) AllReadyH.nil
                go_simp
                refine hK.out _ _ trivial (fun _ => ?_)
                clear hK K
                refine wpAnyH_done (by kernel_rfl) ?_ _
                go_wp2_with fail
                go_roundw
                case rel => exact ⟨k + 1, .slice an nn cn, by omega, by go_num, by rw [HZS.out]; exact hzz, hPE, hLE, by rw [HZS.out]; exact hDE, hEE, hRE, hBE⟩
                case measure => simp [intOf]; omega
      · skip
        rw [if_pos (by rfl)]
        refine wp_load_mid 65 _ rfl BL 0 rfl (encB bd) _ hLA.1 Tryd.underlying65 rfl (inf67.trans (by rw [encB_len])) ?_
        refine hK.out _ _ trivial (fun _ => ?_)
        clear hK K
        refine wpAnyH_ready (rs := [0, 1]) (by kernel_rfl) (by simp) ?_
        refine AllReadyH.cons rfl (fun K hK => ?_) (AllReadyH.cons rfl (fun K hK => ?_) AllReadyH.nil)
        · skip
          rw [if_pos (by rfl)]
          refine wp_load_mid 31 _ rfl PP 0 rfl [.int .i64 W, .int .i64 H, .slice av L.length cv] _ (range3 (cell_of_block hPA 0) (cell_of_block hPA 1) (cell_of_block hPA 2)) Tryd.underlying31 rfl infPuz ?_
          refine hK.out _ _ trivial (fun _ => ?_)
          clear hK K
          refine wpAnyH_ready (rs := [1]) (by kernel_rfl) (by simp) ?_
          refine AllReadyH.cons rfl (fun K hK => ?_) AllReadyH.nil
          · skip
            rw [if_pos (by rfl)]
            refine wp_load_mid 31 _ rfl PP 0 rfl [.int .i64 W, .int .i64 H, .slice av L.length cv] _ (range3 (cell_of_block hPA 0) (cell_of_block hPA 1) (cell_of_block hPA 2)) Tryd.underlying31 rfl infPuz ?_
            refine hK.out _ _ trivial (fun _ => ?_)
            clear hK K
            refine wpAnyH_ready (rs := [3]) (by kernel_rfl) (by simp) ?_
            refine AllReadyH.cons rfl (fun K hK => ?_) AllReadyH.nil
            · skip
              go_simp
              refine (HC.out qA hDA).mono ?_
              rintro e qB ⟨rfl, hDB, hsp⟩
              have hPB := (hsp.2 PP hlP h13).trans hPA
              have hLB := hLA.heap (hsp.2 BL hlB h23)
              have hEB := (hsp.2 w.heap.size hlE (by omega)).trans hEA
              have hRB := hRA.spare hDA (by decide) hsp
              have hBB := hBA.trans (hsp.1 w.heap.size (by omega))
              go_wp2_with fail
              refine hK.out _ _ trivial (fun _ => ?_)
              clear hK K
              clear hPA hLA hDA hEA hRA hBA hsp
              refine wpAnyH_ready (rs := [4]) (by kernel_rfl) (by simp) ?_
              refine AllReadyH.cons rfl (fun K hK => ?_) AllReadyH.nil
              · skip
                go_simp
                have hbk : Below qB.heap.size qB (qB.alloc (.cells #[.int .i64 c.k, .int .i64 c.a, .int .i64 c.b] 26)) := (Below.refl _ _).alloc (Nat.le_refl _) _
                have hPC := (hbk.block _ (block_lt hPB)).trans hPB
                have hLC := hLB.later hbk
                have hDC := (hbk.block _ (block_lt hDB)).trans hDB
                have hEC := (hbk.block _ (block_lt hEB)).trans hEB
                have hRC := hRB.below hbk
                have hBC := hBB.trans (hbk.mono hBB.size)
                have hAC := at_clue qB c 26
                refine hK.out _ _ trivial (fun _ => ?_)
                clear hK K
                clear hbk hPB hLB hDB hEB hRB hBB
                generalize qB.alloc (.cells #[.int .i64 c.k, .int .i64 c.a, .int .i64 c.b] 26) = qC at *
                generalize qB.heap.size = NC at *
                refine wpAnyH_ready (rs := [5]) (by kernel_rfl) (by simp) ?_
                refine AllReadyH.cons rfl (fun K hK => ?_) AllReadyH.nil
                go_simp
                refine (with_any (W : Int) H w.heap.size L.length cv av L [c] (some ⟨NC, 0, none⟩) 1 1 qC hRC rfl hAC hBC.size (by have := HML.out; simp; omega)).mono ?_
                rintro e qD ⟨vn, rfl, hRD, hbk⟩
                obtain ⟨an, nn, cn, hvn⟩ : ∃ a n c, vn = .slice a n c := by obtain ⟨a, c, h⟩ := hRD.shape; exact ⟨a, _, c, h⟩
                subst hvn
                have hPD := (hbk.block _ (block_lt hPC)).trans hPC
                have hLD := hLC.later hbk
                have hDD := (hbk.block _ (block_lt hDC)).trans hDC
                have hED := (hbk.block _ (block_lt hEC)).trans hEC
                have hBD := hBC.trans (hbk.mono hBC.size)
                go_wp2_with fail
                refine hK.out _ _ trivial (fun _ => ?_)
                clear hK K
                clear hbk hPC hLC hDC hEC hRC hBC hAC
                have y0 := cell_of_block hPD 0
                have y1 := cell_of_block hPD 1
                have y2 := cell_of_block hPD 2
                have yf := frozen_of_block hPD
                simp at y0 y1 y2
                obtain ⟨hPE, hbE⟩ := puzzle_stored (B := w.heap.size) hPD (by omega) (.int .i64 W) (.int .i64 H) (.slice an nn cn)
                have hO : ∀ b, b ≠ PP → (((qD.setCell ⟨PP, 0, none⟩ (.int .i64 W)).setCell ⟨PP, 1, none⟩ (.int .i64 H)).setCell ⟨PP, 2, none⟩ (.slice an nn cn)).heap[b]? = qD.heap[b]? := fun b hb => (away_setC hb).trans ((away_setC hb).trans (away_setC hb))
                have hLE : Hid (BoxB (((qD.setCell ⟨PP, 0, none⟩ (.int .i64 W)).setCell ⟨PP, 1, none⟩ (.int .i64 H)).setCell ⟨PP, 2, none⟩ (.slice an nn cn)) BL bd) := hLD.heap (hO BL (fun h => h12 h.symm))
                have hDE : Hid ((((qD.setCell ⟨PP, 0, none⟩ (.int .i64 W)).setCell ⟨PP, 1, none⟩ (.int .i64 H)).setCell ⟨PP, 2, none⟩ (.slice an nn cn)).heap[DD]? = some (.cells #[.int .i64 (zzN z : Nat)] 71 (0, 0))) := (hO DD (fun h => h13 h.symm)).trans hDD
                have hEE : Hid ((((qD.setCell ⟨PP, 0, none⟩ (.int .i64 W)).setCell ⟨PP, 1, none⟩ (.int .i64 H)).setCell ⟨PP, 2, none⟩ (.slice an nn cn)).heap[w.heap.size]? = some (.cells #[.int .i64 0, .int .i64 0, .slice none 0 0] 31 (0, 0))) := (hO w.heap.size (by omega)).trans hED
                have hRE := hRD.put3 (x := .int .i64 W) (y := .int .i64 H) (z := .slice an nn cn) hPD
                rw [← HSN.out] at hRE
                have hBE := hBD.trans hbE
                refine wpAnyH_ready (rs := [6]) (by kernel_rfl) (by simp) ?_
                refine AllReadyH.cons rfl (fun K hK => ?_) AllReadyH.nil
                go_simp
                refine hK.out _ _ trivial (fun _ => ?_)
                clear hK K
                refine wpAnyH_done (by kernel_rfl) ?_ _
                go_wp2_with fail
                go_roundw
                case rel => exact ⟨k + 1, .slice an nn cn, by omega, by go_num, by rw [HZS.out]; exact hzz, hPE, hLE, by rw [HZS.out]; exact hDE, hEE, hRE, hBE⟩
                case measure => simp [intOf]; omega
        · skip
          rw [if_pos (by rfl)]
          refine wp_load_mid 31 _ rfl PP 0 rfl [.int .i64 W, .int .i64 H, .slice av L.length cv] _ (range3 (cell_of_block hPA 0) (cell_of_block hPA 1) (cell_of_block hPA 2)) Tryd.underlying31 rfl infPuz ?_
          refine hK.out _ _ trivial (fun _ => ?_)
          clear hK K
          refine wpAnyH_ready (rs := [0, 3]) (by kernel_rfl) (by simp) ?_
          refine AllReadyH.cons rfl (fun K hK => ?_) (AllReadyH.cons rfl (fun K hK => ?_) AllReadyH.nil)
          · skip
            rw [if_pos (by rfl)]
            refine wp_load_mid 31 _ rfl PP 0 rfl [.int .i64 W, .int .i64 H, .slice av L.length cv] _ (range3 (cell_of_block hPA 0) (cell_of_block hPA 1) (cell_of_block hPA 2)) Tryd.underlying31 rfl infPuz ?_
            refine hK.out _ _ trivial (fun _ => ?_)
            clear hK K
            refine wpAnyH_ready (rs := [3]) (by kernel_rfl) (by simp) ?_
            refine AllReadyH.cons rfl (fun K hK => ?_) AllReadyH.nil
            · skip
              go_simp
              refine (HC.out qA hDA).mono ?_
              rintro e qB ⟨rfl, hDB, hsp⟩
              have hPB := (hsp.2 PP hlP h13).trans hPA
              have hLB := hLA.heap (hsp.2 BL hlB h23)
              have hEB := (hsp.2 w.heap.size hlE (by omega)).trans hEA
              have hRB := hRA.spare hDA (by decide) hsp
              have hBB := hBA.trans (hsp.1 w.heap.size (by omega))
              go_wp2_with fail
              refine hK.out _ _ trivial (fun _ => ?_)
              clear hK K
              clear hPA hLA hDA hEA hRA hBA hsp
              refine wpAnyH_ready (rs := [4]) (by kernel_rfl) (by simp) ?_
              refine AllReadyH.cons rfl (fun K hK => ?_) AllReadyH.nil
              · skip
                go_simp
                have hbk : Below qB.heap.size qB (qB.alloc (.cells #[.int .i64 c.k, .int .i64 c.a, .int .i64 c.b] 26)) := (Below.refl _ _).alloc (Nat.le_refl _) _
                have hPC := (hbk.block _ (block_lt hPB)).trans hPB
                have hLC := hLB.later hbk
                have hDC := (hbk.block _ (block_lt hDB)).trans hDB
                have hEC := (hbk.block _ (block_lt hEB)).trans hEB
                have hRC := hRB.below hbk
                have hBC := hBB.trans (hbk.mono hBB.size)
                have hAC := at_clue qB c 26
                refine hK.out _ _ trivial (fun _ => ?_)
                clear hK K
                clear hbk hPB hLB hDB hEB hRB hBB
                generalize qB.alloc (.cells #[.int .i64 c.k, .int .i64 c.a, .int .i64 c.b] 26) = qC at *
                generalize qB.heap.size = NC at *
                refine wpAnyH_ready (rs := [5]) (by kernel_rfl) (by simp) ?_
                refine AllReadyH.cons rfl (fun K hK => ?_) AllReadyH.nil
                go_simp
                refine (with_any (W : Int) H w.heap.size L.length cv av L [c] (some ⟨NC, 0, none⟩) 1 1 qC hRC rfl hAC hBC.size (by have := HML.out; simp; omega)).mono ?_
                rintro e qD ⟨vn, rfl, hRD, hbk⟩
                obtain ⟨an, nn, cn, hvn⟩ : ∃ a n c, vn = .slice a n c := by obtain ⟨a, c, h⟩ := hRD.shape; exact ⟨a, _, c, h⟩
                subst hvn
                have hPD := (hbk.block _ (block_lt hPC)).trans hPC
                have hLD := hLC.later hbk
                have hDD := (hbk.block _ (block_lt hDC)).trans hDC
                have hED := (hbk.block _ (block_lt hEC)).trans hEC
                have hBD := hBC.trans (hbk.mono hBC.size)
                go_wp2_with fail
                refine hK.out _ _ trivial (fun _ => ?_)
                clear hK K
                clear hbk hPC hLC hDC hEC hRC hBC hAC
                have y0 := cell_of_block hPD 0
                have y1 := cell_of_block hPD 1
                have y2 := cell_of_block hPD 2
                have yf := frozen_of_block hPD
                simp at y0 y1 y2
                obtain ⟨hPE, hbE⟩ := puzzle_stored (B := w.heap.size) hPD (by omega) (.int .i64 W) (.int .i64 H) (.slice an nn cn)
                have hO : ∀ b, b ≠ PP → (((qD.setCell ⟨PP, 0, none⟩ (.int .i64 W)).setCell ⟨PP, 1, none⟩ (.int .i64 H)).setCell ⟨PP, 2, none⟩ (.slice an nn cn)).heap[b]? = qD.heap[b]? := fun b hb => (away_setC hb).trans ((away_setC hb).trans (away_setC hb))
                have hLE : Hid (BoxB (((qD.setCell ⟨PP, 0, none⟩ (.int .i64 W)).setCell ⟨PP, 1, none⟩ (.int .i64 H)).setCell ⟨PP, 2, none⟩ (.slice an nn cn)) BL bd) := hLD.heap (hO BL (fun h => h12 h.symm))
                have hDE : Hid ((((qD.setCell ⟨PP, 0, none⟩ (.int .i64 W)).setCell ⟨PP, 1, none⟩ (.int .i64 H)).setCell ⟨PP, 2, none⟩ (.slice an nn cn)).heap[DD]? = some (.cells #[.int .i64 (zzN z : Nat)] 71 (0, 0))) := (hO DD (fun h => h13 h.symm)).trans hDD
                have hEE : Hid ((((qD.setCell ⟨PP, 0, none⟩ (.int .i64 W)).setCell ⟨PP, 1, none⟩ (.int .i64 H)).setCell ⟨PP, 2, none⟩ (.slice an nn cn)).heap[w.heap.size]? = some (.cells #[.int .i64 0, .int .i64 0, .slice none 0 0] 31 (0, 0))) := (hO w.heap.size (by omega)).trans hED
                have hRE := hRD.put3 (x := .int .i64 W) (y := .int .i64 H) (z := .slice an nn cn) hPD
                rw [← HSN.out] at hRE
                have hBE := hBD.trans hbE
                refine wpAnyH_ready (rs := [6]) (by kernel_rfl) (by simp) ?_
                refine AllReadyH.cons rfl (fun K hK => ?_) AllReadyH.nil
                go_simp
                refine hK.out _ _ trivial (fun _ => ?_)
                clear hK K
                refine wpAnyH_done (by kernel_rfl) ?_ _
                go_wp2_with fail
                go_roundw
                case rel => exact ⟨k + 1, .slice an nn cn, by omega, by go_num, by rw [HZS.out]; exact hzz, hPE, hLE, by rw [HZS.out]; exact hDE, hEE, hRE, hBE⟩
                case measure => simp [intOf]; omega
          · skip
            go_simp
            refine (HC.out qA hDA).mono ?_
            rintro e qB ⟨rfl, hDB, hsp⟩
            have hPB := (hsp.2 PP hlP h13).trans hPA
            have hLB := hLA.heap (hsp.2 BL hlB h23)
            have hEB := (hsp.2 w.heap.size hlE (by omega)).trans hEA
            have hRB := hRA.spare hDA (by decide) hsp
            have hBB := hBA.trans (hsp.1 w.heap.size (by omega))
            go_wp2_with fail
            refine hK.out _ _ trivial (fun _ => ?_)
            clear hK K
            clear hPA hLA hDA hEA hRA hBA hsp
            refine wpAnyH_ready (rs := [0, 4]) (by kernel_rfl) (by simp) ?_
            refine AllReadyH.cons rfl (fun K hK => ?_) (AllReadyH.cons rfl (fun K hK => ?_) AllReadyH.nil)
            · skip
              rw [if_pos (by rfl)]
              refine wp_load_mid 31 _ rfl PP 0 rfl [.int .i64 W, .int .i64 H, .slice av L.length cv] _ (range3 (cell_of_block hPB 0) (cell_of_block hPB 1) (cell_of_block hPB 2)) Tryd.underlying31 rfl infPuz ?_
              refine hK.out _ _ trivial (fun _ => ?_)
              clear hK K
              refine wpAnyH_ready (rs := [4]) (by kernel_rfl) (by simp) ?_
              refine AllReadyH.cons rfl (fun K hK => ?_) AllReadyH.nil
              · skip
                go_simp
                have hbk : Below qB.heap.size qB (qB.alloc (.cells #[.int .i64 c.k, .int .i64 c.a, .int .i64 c.b] 26)) := (Below.refl _ _).alloc (Nat.le_refl _) _
                have hPC := (hbk.block _ (block_lt hPB)).trans hPB
                have hLC := hLB.later hbk
                have hDC := (hbk.block _ (block_lt hDB)).trans hDB
                have hEC := (hbk.block _ (block_lt hEB)).trans hEB
                have hRC := hRB.below hbk
                have hBC := hBB.trans (hbk.mono hBB.size)
                have hAC := at_clue qB c 26
                refine hK.out _ _ trivial (fun _ => ?_)
                clear hK K
                clear hbk hPB hLB hDB hEB hRB hBB
                generalize qB.alloc (.cells #[.int .i64 c.k, .int .i64 c.a, .int .i64 c.b] 26) = qC at *
                generalize qB.heap.size = NC at *
                refine wpAnyH_ready (rs := [5]) (by kernel_rfl) (by simp) ?_
                refine AllReadyH.cons rfl (fun K hK => ?_) AllReadyH.nil
                go_simp
                refine (with_any (W : Int) H w.heap.size L.length cv av L [c] (some ⟨NC, 0, none⟩) 1 1 qC hRC rfl hAC hBC.size (by have := HML.out; simp; omega)).mono ?_
                rintro e qD ⟨vn, rfl, hRD, hbk⟩
                obtain ⟨an, nn, cn, hvn⟩ : ∃ a n c, vn = .slice a n c := by obtain ⟨a, c, h⟩ := hRD.shape; exact ⟨a, _, c, h⟩
                subst hvn
                have hPD := (hbk.block _ (block_lt hPC)).trans hPC
                have hLD := hLC.later hbk
                have hDD := (hbk.block _ (block_lt hDC)).trans hDC
                have hED := (hbk.block _ (block_lt hEC)).trans hEC
                have hBD := hBC.trans (hbk.mono hBC.size)
                go_wp2_with fail
                refine hK.out _ _ trivial (fun _ => ?_)
                clear hK K
                clear hbk hPC hLC hDC hEC hRC hBC hAC
                have y0 := cell_of_block hPD 0
                have y1 := cell_of_block hPD 1
                have y2 := cell_of_block hPD 2
                have yf := frozen_of_block hPD
                simp at y0 y1 y2
                obtain ⟨hPE, hbE⟩ := puzzle_stored (B := w.heap.size) hPD (by omega) (.int .i64 W) (.int .i64 H) (.slice an nn cn)
                have hO : ∀ b, b ≠ PP → (((qD.setCell ⟨PP, 0, none⟩ (.int .i64 W)).setCell ⟨PP, 1, none⟩ (.int .i64 H)).setCell ⟨PP, 2, none⟩ (.slice an nn cn)).heap[b]? = qD.heap[b]? := fun b hb => (away_setC hb).trans ((away_setC hb).trans (away_setC hb))
                have hLE : Hid (BoxB (((qD.setCell ⟨PP, 0, none⟩ (.int .i64 W)).setCell ⟨PP, 1, none⟩ (.int .i64 H)).setCell ⟨PP, 2, none⟩ (.slice an nn cn)) BL bd) := hLD.heap (hO BL (fun h => h12 h.symm))
                have hDE : Hid ((((qD.setCell ⟨PP, 0, none⟩ (.int .i64 W)).setCell ⟨PP, 1, none⟩ (.int .i64 H)).setCell ⟨PP, 2, none⟩ (.slice an nn cn)).heap[DD]? = some (.cells #[.int .i64 (zzN z : Nat)] 71 (0, 0))) := (hO DD (fun h => h13 h.symm)).trans hDD
                have hEE : Hid ((((qD.setCell ⟨PP, 0, none⟩ (.int .i64 W)).setCell ⟨PP, 1, none⟩ (.int .i64 H)).setCell ⟨PP, 2, none⟩ (.slice an nn cn)).heap[w.heap.size]? = some (.cells #[.int .i64 0, .int .i64 0, .slice none 0 0] 31 (0, 0))) := (hO w.heap.size (by omega)).trans hED
                have hRE := hRD.put3 (x := .int .i64 W) (y := .int .i64 H) (z := .slice an nn cn) hPD
                rw [← HSN.out] at hRE
                have hBE := hBD.trans hbE
                refine wpAnyH_ready (rs := [6]) (by kernel_rfl) (by simp) ?_
                refine AllReadyH.cons rfl (fun K hK => ?_) AllReadyH.nil
                go_simp
                refine hK.out _ _ trivial (fun _ => ?_)
                clear hK K
                refine wpAnyH_done (by kernel_rfl) ?_ _
                go_wp2_with fail
                go_roundw
                case rel => exact ⟨k + 1, .slice an nn cn, by omega, by go_num, by rw [HZS.out]; exact hzz, hPE, hLE, by rw [HZS.out]; exact hDE, hEE, hRE, hBE⟩
                case measure => simp [intOf]; omega
            · skip
              go_simp
              have hbk : Below qB.heap.size qB (qB.alloc (.cells #[.int .i64 c.k, .int .i64 c.a, .int .i64 c.b] 26)) := (Below.refl _ _).alloc (Nat.le_refl _) _
              have hPC := (hbk.block _ (block_lt hPB)).trans hPB
              have hLC := hLB.later hbk
              have hDC := (hbk.block _ (block_lt hDB)).trans hDB
              have hEC := (hbk.block _ (block_lt hEB)).trans hEB
              have hRC := hRB.below hbk
              have hBC := hBB.trans (hbk.mono hBB.size)
              have hAC := at_clue qB c 26
              refine hK.out _ _ trivial (fun _ => ?_)
              clear hK K
              clear hbk hPB hLB hDB hEB hRB hBB
              generalize qB.alloc (.cells #[.int .i64 c.k, .int .i64 c.a, .int .i64 c.b] 26) = qC at *
              generalize qB.heap.size = NC at *
              refine wpAnyH_ready (rs := [0]) (by kernel_rfl) (by simp) ?_
              refine AllReadyH.cons rfl (fun K hK => ?_) AllReadyH.nil
              · skip
                rw [if_pos (by rfl)]
                refine wp_load_mid 31 _ rfl PP 0 rfl [.int .i64 W, .int .i64 H, .slice av L.length cv] _ (range3 (cell_of_block hPC 0) (cell_of_block hPC 1) (cell_of_block hPC 2)) Tryd.underlying31 rfl infPuz ?_
                refine hK.out _ _ trivial (fun _ => ?_)
                clear hK K
                refine wpAnyH_ready (rs := [5]) (by kernel_rfl) (by simp) ?_
                refine AllReadyH.cons rfl (fun K hK => ?_) AllReadyH.nil
                go_simp
                refine (with_any (W : Int) H w.heap.size L.length cv av L [c] (some ⟨NC, 0, none⟩) 1 1 qC hRC rfl hAC hBC.size (by have := HML.out; simp; omega)).mono ?_
                rintro e qD ⟨vn, rfl, hRD, hbk⟩
                obtain ⟨an, nn, cn, hvn⟩ : ∃ a n c, vn = .slice a n c := by obtain ⟨a, c, h⟩ := hRD.shape; exact ⟨a, _, c, h⟩
                subst hvn
                have hPD := (hbk.block _ (block_lt hPC)).trans hPC
                have hLD := hLC.later hbk
                have hDD := (hbk.block _ (block_lt hDC)).trans hDC
                have hED := (hbk.block _ (block_lt hEC)).trans hEC
                have hBD := hBC.trans (hbk.mono hBC.size)
                go_wp2_with fail
                refine hK.out _ _ trivial (fun _ => ?_)
                clear hK K
                clear hbk hPC hLC hDC hEC hRC hBC hAC
                have y0 := cell_of_block hPD 0
                have y1 := cell_of_block hPD 1
                have y2 := cell_of_block hPD 2
                have yf := frozen_of_block hPD
                simp at y0 y1 y2
                obtain ⟨hPE, hbE⟩ := puzzle_stored (B := w.heap.size) hPD (by omega) (.int .i64 W) (.int .i64 H) (.slice an nn cn)
                have hO : ∀ b, b ≠ PP → (((qD.setCell ⟨PP, 0, none⟩ (.int .i64 W)).setCell ⟨PP, 1, none⟩ (.int .i64 H)).setCell ⟨PP, 2, none⟩ (.slice an nn cn)).heap[b]? = qD.heap[b]? := fun b hb => (away_setC hb).trans ((away_setC hb).trans (away_setC hb))
                have hLE : Hid (BoxB (((qD.setCell ⟨PP, 0, none⟩ (.int .i64 W)).setCell ⟨PP, 1, none⟩ (.int .i64 H)).setCell ⟨PP, 2, none⟩ (.slice an nn cn)) BL bd) := hLD.heap (hO BL (fun h => h12 h.symm))
                have hDE : Hid ((((qD.setCell ⟨PP, 0, none⟩ (.int .i64 W)).setCell ⟨PP, 1, none⟩ (.int .i64 H)).setCell ⟨PP, 2, none⟩ (.slice an nn cn)).heap[DD]? = some (.cells #[.int .i64 (zzN z : Nat)] 71 (0, 0))) := (hO DD (fun h => h13 h.symm)).trans hDD
                have hEE : Hid ((((qD.setCell ⟨PP, 0, none⟩ (.int .i64 W)).setCell ⟨PP, 1, none⟩ (.int .i64 H)).setCell ⟨PP, 2, none⟩ (.slice an nn cn)).heap[w.heap.size]? = some (.cells #[.int .i64 0, .int .i64 0, .slice none 0 0] 31 (0, 0))) := (hO w.heap.size (by omega)).trans hED
                have hRE := hRD.put3 (x := .int .i64 W) (y := .int .i64 H) (z := .slice an nn cn) hPD
                rw [← HSN.out] at hRE
                have hBE := hBD.trans hbE
                refine wpAnyH_ready (rs := [6]) (by kernel_rfl) (by simp) ?_
                refine AllReadyH.cons rfl (fun K hK => ?_) AllReadyH.nil
                go_simp
                refine hK.out _ _ trivial (fun _ => ?_)
                clear hK K
                refine wpAnyH_done (by kernel_rfl) ?_ _
                go_wp2_with fail
                go_roundw
                case rel => exact ⟨k + 1, .slice an nn cn, by omega, by go_num, by rw [HZS.out]; exact hzz, hPE, hLE, by rw [HZS.out]; exact hDE, hEE, hRE, hBE⟩
                case measure => simp [intOf]; omega
    · obtain rfl : k = n := by omega
      obtain ⟨av, cv, hv⟩ := hRr.shape
      subst hv
      have p0 := cell_of_block hPr.out 0
      have p1 := cell_of_block hPr.out 1
      have p2 := cell_of_block hPr.out 2
      have z0 := cell_of_block hEr.out 0
      have z1 := cell_of_block hEr.out 1
      have z2 := cell_of_block hEr.out 2
      have zf := frozen_of_block hEr.out
      simp at p0 p1 p2 z0 z1 z2
      go_wp2_with fail
      obtain ⟨hE6, hb6⟩ := puzzle_stored (B := w.heap.size) hEr.out (Nat.le_refl _) (.int .i64 W) (.int .i64 H) (.slice av (mkL W H cells k s).length cv)
      exact bodyPost_ret (res_pair rfl _ _ _ _ _ _ _ _ rfl hE6 Tryd.underlying31 rfl infPuz rfl) rfl ⟨_, rfl, hRr.put3 hEr.out, hbr.trans hb6⟩
end Go.Proofs.YthlbplmghjaeoaaDoor
