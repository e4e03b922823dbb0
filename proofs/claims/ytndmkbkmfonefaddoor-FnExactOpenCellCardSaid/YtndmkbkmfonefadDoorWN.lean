/- Views: does a board fit a view? -/
import Derived.Test.YtndmkbkmfonefadDoorWM
import Derived.Outline
namespace Go.Proofs.YtndmkbkmfonefadDoor
open Go.RowKit

def dfOK (l m : List UInt8) : Bool := viewM l && boGoodM m
def dfM (l m : List UInt8) : Bool := dfOK l m && (((vW l == gW m) && (vH l == gH m)) && viFitsM (vC l) (gCells m) (vW l))
theorem Grd.board {m : List UInt8} (h : boGoodM m = true) : Grd m (gW m) (gH m) (gCells m) := by
  obtain ⟨e1, e2, e3⟩ := gr_board m
  have h2 := Grd.of (p := rowSign) (l := m) (by rw [grid_good]; exact h)
  rw [e1, e2, e3] at h2
  exact h2
theorem df_no {l m : List UInt8} (h : dfOK l m = false) : dfM l m = false := by rw [dfM, h]; rfl
theorem df_diff {l m : List UInt8} (h : ¬ (vW l = gW m ∧ vH l = gH m)) : dfM l m = false := by
  rw [dfM]
  by_cases h1 : vW l = gW m
  · rw [beq_eq_false_iff_ne.2 (fun q => h ⟨h1, q⟩)]; simp
  · rw [beq_eq_false_iff_ne.2 h1]; simp
theorem df_same {l m : List UInt8} (h : dfOK l m = true) (h1 : vW l = gW m) (h2 : vH l = gH m) : dfM l m = viFitsM (vC l) (gCells m) (vW l) ∧ (gCells m).length = (vC l).length := by
  have hv : viewM l = true := by rw [dfOK] at h; simp at h; exact h.1
  have hb : boGoodM m = true := by rw [dfOK] at h; simp at h; exact h.2
  refine ⟨by rw [dfM, h, h1, h2]; simp, ?_⟩
  rw [(Grd.view hv).1.len, (Grd.board hb).len, h1, h2]

set_option maxRecDepth 100000 in
set_option maxHeartbeats 1600000 in
theorem sDoesFitView_any (l m : List UInt8) (w : World) (hl : l.length ≤ 1048576) (hm : m.length ≤ 1048576) :
    Calls Tryd.prog 31 #[.string ⟨l.toArray⟩, .string ⟨m.toArray⟩] w fun e w' => e = .returned (.tuple #[.bool (dfM l m), .bool (dfOK l m)]) ∧ Below w.heap.size w w' := by
  have hvg := fun w => viGood_any l w hl
  have hbg := fun w => boGood_any m w hm
  cases hv : viewM l with
  | false =>
    have HO : Hid (dfOK l m = false) := by rw [Hid, dfOK, hv]; rfl
    rw [hv] at hvg
    clear hv hbg
    go_enter Tryd.func31, Tryd.ntmps31
    go_wp2_with fail
    refine (hvg _).mono ?_
    rintro e w1 ⟨rfl, hb1⟩
    go_wp2_with fail
    go_ret2
    exact ⟨by rw [df_no HO.out, HO.out]; rfl, hb1⟩
  | true =>
    rw [hv] at hvg
    cases hb : boGoodM m with
    | false =>
      have HO : Hid (dfOK l m = false) := by rw [Hid, dfOK, hv, hb]; rfl
      rw [hb] at hbg
      clear hv hb
      go_enter Tryd.func31, Tryd.ntmps31
      go_wp2_with fail
      refine (hvg _).mono ?_
      rintro e w1 ⟨rfl, hb1⟩
      go_wp2_with fail
      refine (hbg _).mono ?_
      rintro e w2 ⟨rfl, hb2⟩
      go_wp2_with fail
      go_ret2
      exact ⟨by rw [df_no HO.out, HO.out]; rfl, hb1.trans (hb2.mono hb1.size)⟩
    | true =>
      have hok : dfOK l m = true := by rw [dfOK, hv, hb]; rfl
      rw [hb] at hbg
      obtain ⟨hG, hsg⟩ := Grd.view hv
      have hB := Grd.board hb
      have hsz := fun w => boSize_any l w hl
      have hsm := fun w => viSame_any l m w hl hm
      have hcl := fun w => boCells_any l w hl
      have hcm := fun w => boCells_any m w hm
      rw [hG.size] at hsz hsm
      rw [hB.size] at hsm
      rw [hG.cs] at hcl
      rw [hB.cs] at hcm
      have HOK := Lib.hid hok
      by_cases hs : vW l = gW m ∧ vH l = gH m
      · obtain ⟨e1, hlen⟩ := df_same hok hs.1 hs.2
        have hft := fun w => viFits_any (vC l) (gCells m) (vW l) (vH l) w ⟨hG.w1, hG.w8⟩ hG.h8 hG.len hlen hsg hG.n64
        have HE := Lib.hid e1
        have e2 : ((vW l == gW m) && (vH l == gH m)) = true := by rw [hs.1, hs.2]; simp
        rw [show ((((vW l, vH l).1 == (gW m, gH m).1) && ((vW l, vH l).2 == (gW m, gH m).2)) = true) from e2] at hsm
        have HFT := Lib.hid hft
        have HSM := Lib.hid hsm
        have HSZ := Lib.hid hsz
        have HCL := Lib.hid hcl
        have HCM := Lib.hid hcm
        clear hs hlen e1 e2 hv hb hok hB hG hsg hft hsm hsz hcl hcm
        go_enter Tryd.func31, Tryd.ntmps31
        go_wp2_with fail
        refine (hvg _).mono ?_
        rintro e w1 ⟨rfl, hb1⟩
        go_wp2_with fail
        refine (hbg _).mono ?_
        rintro e w2 ⟨rfl, hb2⟩
        go_wp2_with fail
        refine (HSZ.out _).mono ?_
        rintro e w3 ⟨rfl, hb3⟩
        go_wp2_with fail
        refine (HSM.out _).mono ?_
        rintro e w4 ⟨rfl, hb4⟩
        go_wp2_with fail
        refine (HCL.out _).mono ?_
        rintro e w5 ⟨rfl, rfl⟩
        go_wp2_with fail
        refine (HCM.out _).mono ?_
        rintro e w6 ⟨rfl, rfl⟩
        go_wp2_with fail
        refine (HFT.out _).mono ?_
        rintro e w7 ⟨rfl, hb7⟩
        have s1 := hb1.size
        have s2 := hb2.size
        have s3 := hb3.size
        have s4 := hb4.size
        go_wp2_with fail
        go_ret2
        exact ⟨by rw [HE.out, HOK.out]; rfl, (((hb1.trans (hb2.mono s1)).trans (hb3.mono (by omega))).trans (hb4.mono (by omega))).trans (hb7.mono (by omega))⟩
      · have HE := Lib.hid (df_diff hs)
        have e2 : ((vW l == gW m) && (vH l == gH m)) = false := by
          by_cases h1 : vW l = gW m
          · rw [beq_eq_false_iff_ne.2 (fun q => hs ⟨h1, q⟩), Bool.and_false]
          · rw [beq_eq_false_iff_ne.2 h1, Bool.false_and]
        rw [show ((((vW l, vH l).1 == (gW m, gH m).1) && ((vW l, vH l).2 == (gW m, gH m).2)) = false) from e2] at hsm
        have HSM := Lib.hid hsm
        have HSZ := Lib.hid hsz
        clear hs e2 hv hb hok hB hG hsg hsm hsz hcl hcm
        go_enter Tryd.func31, Tryd.ntmps31
        go_wp2_with fail
        refine (hvg _).mono ?_
        rintro e w1 ⟨rfl, hb1⟩
        go_wp2_with fail
        refine (hbg _).mono ?_
        rintro e w2 ⟨rfl, hb2⟩
        go_wp2_with fail
        refine (HSZ.out _).mono ?_
        rintro e w3 ⟨rfl, hb3⟩
        go_wp2_with fail
        refine (HSM.out _).mono ?_
        rintro e w4 ⟨rfl, hb4⟩
        have s1 := hb1.size
        have s2 := hb2.size
        have s3 := hb3.size
        go_wp2_with fail
        go_ret2
        exact ⟨by rw [HE.out, HOK.out]; rfl, ((hb1.trans (hb2.mono s1)).trans (hb3.mono (by omega))).trans (hb4.mono (by omega))⟩

set_option maxRecDepth 100000 in
set_option maxHeartbeats 1600000 in
theorem iDoesFitView_any (l m : List UInt8) (w : World) (hM : HasMax w) (hl : l.length ≤ 1048576) (hm : m.length ≤ 1048576) :
    Calls Tryd.prog 32 #[.string ⟨l.toArray⟩, .string ⟨m.toArray⟩] w fun e w' => e = .returned (.tuple #[.bool (dfM l m), .bool (dfOK l m)]) ∧ Below w.heap.size w w' := by
  have hbd := fun w h => readBoard_any m w h hm
  have hcase : (dfOK l m = false ∧ ∀ b, (viewM l && boGoodM m) = b → b = false) ∨ (viewM l = true ∧ boGoodM m = true) := by
    cases h1 : viewM l with
    | false => exact .inl ⟨by rw [dfOK, h1]; rfl, fun b h => by rw [← h]; rfl⟩
    | true =>
      cases h2 : boGoodM m with
      | false => exact .inl ⟨by rw [dfOK, h1, h2]; rfl, fun b h => by rw [← h]; rfl⟩
      | true => exact .inr ⟨rfl, rfl⟩
  rcases hcase with ⟨h0, h1⟩ | ⟨hv, hb⟩
  · have h2 := h1 _ rfl
    have HO := Lib.hid h0
    have HF := Lib.hid (df_no h0)
    clear h0 h1
    go_enter Tryd.func32, Tryd.ntmps32
    go_wp2_with fail
    refine (readView_any l _ hM hl).mono ?_
    rintro e w1 ⟨a, cap, ah, ch, an, cn, rfl, ho1, ho2, ho3, hb1⟩
    have s1 := hb1.size
    clear ho1 ho2 ho3
    generalize viewM l = vok at *
    generalize vNear l = near at *
    generalize hidM (vC l) = hid at *
    generalize vC l = vc at *
    generalize vW l = W at *
    generalize vH l = H at *
    go_wp2_with fail
    have hba : Below w1.heap.size w1 (w1.alloc (.cells #[.int .i64 W, .int .i64 H, .slice a vc.length cap, .bool false, .slice ah hid.length ch, .slice an near.length cn] 68)) := (Below.refl _ _).alloc (Nat.le_refl _) _
    generalize w1.alloc (.cells #[.int .i64 W, .int .i64 H, .slice a vc.length cap, .bool false, .slice ah hid.length ch, .slice an near.length cn] 68) = w2 at *
    refine (hbd _ ((hM.later hb1).later hba)).mono ?_
    rintro e w3 ⟨a', cap', rfl, ho4, hb3⟩
    have s2 := hba.size
    have s3 := hb3.size
    generalize boGoodM m = bok at *
    generalize gCells m = bc at *
    generalize gW m = X at *
    generalize gH m = Y at *
    have hbw : Below w.heap.size w w3 := (hb1.trans (hba.mono s1)).trans (hb3.mono (by omega))
    cases vok with
    | false =>
      go_wp2_with fail
      go_ret2
      exact ⟨by rw [HF.out, HO.out]; rfl, hbw.alloc hbw.size _⟩
    | true =>
      cases bok with
      | true => exact absurd h2 (by decide)
      | false =>
        go_wp2_with fail
        go_ret2
        exact ⟨by rw [HF.out, HO.out]; rfl, hbw.alloc hbw.size _⟩
  · have hok : dfOK l m = true := by rw [dfOK, hv, hb]; rfl
    have HOK := Lib.hid hok
    obtain ⟨hG, hsg⟩ := Grd.view hv
    have h14 : (hidM (vC l)).length ≤ 14 := by rw [(view_yes hv).2.1]; exact (view_yes hv).2.2
    have hnl : (vNear l).length = (vC l).length := by simp [vNear, nearL]
    have hne : vNear l = nearL (vC l) (vW l) := rfl
    have h64 := hG.n64
    have hdf := fun W H a n c ah nh ch an nn cn W' H' a' n' c' w hd => fitsBoard_diff W H W' H' a n c ah nh ch an nn cn a' n' c' w hd
    have hsm : vW l = gW m → vH l = gH m → dfM l m = fbM (vC l) (gCells m) (vW l) ∧ (gCells m).length = (vC l).length := fun e1 e2 => by
      obtain ⟨e3, e4⟩ := df_same hok e1 e2
      exact ⟨by rw [e3, fb_eq hG.w8 hG.h8 hG.len e4 hsg], e4⟩
    have hdd := @df_diff l m
    have HL := Lib.hid hG.len
    have hW8 := hG.w8
    have hH8 := hG.h8
    clear hG hsg
    rw [hb] at hbd
    have hrv := readView_any l w hM hl
    rw [hv, hnl, hne] at hrv
    have HV := Lib.hid hv
    clear hv hb hok hnl hne
    generalize dfM l m = dm at *
    generalize vC l = vc at *
    generalize vW l = W at *
    generalize vH l = H at *
    generalize gCells m = bc at *
    generalize gW m = X at *
    generalize gH m = Y at *
    have HSM := Lib.hid hsm
    have HDD := Lib.hid hdd
    have HDF := Lib.hid hdf
    clear hsm hdd hdf
    go_enter Tryd.func32, Tryd.ntmps32
    go_wp2_with fail
    refine hrv.mono ?_
    rintro e w1 ⟨a, cap, ah, ch, an, cn, rfl, ho1, ho2, ho3, hb1⟩
    have s1 := hb1.size
    clear hrv
    go_wp2_with fail
    have hba : Below w1.heap.size w1 (w1.alloc (.cells #[.int .i64 W, .int .i64 H, .slice a vc.length cap, .bool false, .slice ah (hidM vc).length ch, .slice an vc.length cn] 68)) := (Below.refl _ _).alloc (Nat.le_refl _) _
    have hVa : (w1.alloc (.cells #[.int .i64 W, .int .i64 H, .slice a vc.length cap, .bool false, .slice ah (hidM vc).length ch, .slice an vc.length cn] 68)).heap[w1.heap.size]? = some (.cells #[.int .i64 W, .int .i64 H, .slice a vc.length cap, .bool false, .slice ah (hidM vc).length ch, .slice an vc.length cn] 68 (0, 0)) := heap_alloc_new w1 _
    have hsa : w1.heap.size < (w1.alloc (.cells #[.int .i64 W, .int .i64 H, .slice a vc.length cap, .bool false, .slice ah (hidM vc).length ch, .slice an vc.length cn] 68)).heap.size := by simp
    have ho1a := ho1.later hba
    have ho2a := ho2.later hba
    have ho3a := ho3.later hba
    generalize w1.alloc (.cells #[.int .i64 W, .int .i64 H, .slice a vc.length cap, .bool false, .slice ah (hidM vc).length ch, .slice an vc.length cn] 68) = w2 at *
    refine (hbd _ ((hM.later hb1).later hba)).mono ?_
    rintro e w3 ⟨a', cap', rfl, ho4, hb3⟩
    have s2 := hba.size
    have s3 := hb3.size
    have hV3 := (hb3.block _ hsa).trans hVa
    have ho1b := ho1a.later hb3
    have ho2b := ho2a.later hb3
    have ho3b := ho3a.later hb3
    have hbw : Below w.heap.size w w3 := (hb1.trans (hba.mono s1)).trans (hb3.mono (by omega))
    have hx0 := cell_of_block hV3 0
    have hx1 := cell_of_block hV3 1
    have hx2 := cell_of_block hV3 2
    have hx3 := cell_of_block hV3 3
    have hx4 := cell_of_block hV3 4
    have hx5 := cell_of_block hV3 5
    simp at hx0 hx1 hx2 hx3 hx4 hx5
    have hlt3 : w1.heap.size < w3.heap.size := by omega
    have hy0 : ∀ o, (w3.alloc o).cell? ⟨w1.heap.size, 0, none⟩ = some (.int .i64 W) := fun o => by rw [cell_new w3 o w1.heap.size hlt3]; exact hx0
    have hy1 : ∀ o, (w3.alloc o).cell? ⟨w1.heap.size, 1, none⟩ = some (.int .i64 H) := fun o => by rw [cell_new w3 o w1.heap.size hlt3]; exact hx1
    have hy2 : ∀ o, (w3.alloc o).cell? ⟨w1.heap.size, 2, none⟩ = some (.slice a vc.length cap) := fun o => by rw [cell_new w3 o w1.heap.size hlt3]; exact hx2
    have hy3 : ∀ o, (w3.alloc o).cell? ⟨w1.heap.size, 3, none⟩ = some (.bool false) := fun o => by rw [cell_new w3 o w1.heap.size hlt3]; exact hx3
    have hy4 : ∀ o, (w3.alloc o).cell? ⟨w1.heap.size, 4, none⟩ = some (.slice ah (hidM vc).length ch) := fun o => by rw [cell_new w3 o w1.heap.size hlt3]; exact hx4
    have hy5 : ∀ o, (w3.alloc o).cell? ⟨w1.heap.size, 5, none⟩ = some (.slice an vc.length cn) := fun o => by rw [cell_new w3 o w1.heap.size hlt3]; exact hx5
    clear ho1 ho2 ho3 ho1a ho2a ho3a hVa hV3
    go_wp2_with fail
    have hbc : Below w3.heap.size w3 (w3.alloc (.cells #[.int .i64 X, .int .i64 Y, .slice a' bc.length cap', .bool false] 45)) := (Below.refl _ _).alloc (Nat.le_refl _) _
    have s4 := hbc.size
    have hat1 := ho1b.at.later rfl hbc
    have hat2 := ho2b.at.later rfl hbc
    have hat3 := ho3b.at.later rfl hbc
    have hat4 := ho4.at.later rfl hbc
    generalize w3.alloc (.cells #[.int .i64 X, .int .i64 Y, .slice a' bc.length cap', .bool false] 45) = w4 at *
    by_cases hs : W = X ∧ H = Y
    · obtain ⟨rfl, rfl⟩ := hs
      obtain ⟨e1, e2⟩ := HSM.out rfl rfl
      refine (fitsBoard_same W H a cap vc bc ah ch an cn a' cap' w4 hat1 hat2 hat3 hat4 h14 hW8 hH8 HL.out h64 e2).mono ?_
      rintro e w5 ⟨rfl, hb5⟩
      rw [← e1]
      have HE2 := Lib.hid e2
      clear e1 e2
      go_wp2_with fail
      go_ret2
      exact ⟨by rw [HOK.out]; rfl, (hbw.trans (hbc.mono hbw.size)).trans (hb5.mono (by have := hbw.size; omega))⟩
    · have he := HDD.out hs
      have hd : X ≠ W ∨ Y ≠ H := by
        by_cases h1 : X = W
        · exact .inr (fun q => hs ⟨h1.symm, q.symm⟩)
        · exact .inl h1
      refine (HDF.out W H a _ _ ah _ _ an _ _ X Y a' _ _ w4 hd).mono ?_
      rintro e w5 ⟨rfl, hb5⟩
      have HE := Lib.hid he
      clear he hs hd
      go_wp2_with fail
      go_ret2
      exact ⟨by rw [HOK.out, HE.out]; rfl, (hbw.trans (hbc.mono hbw.size)).trans (hb5.mono (by have := hbw.size; omega))⟩
end Go.Proofs.YtndmkbkmfonefadDoor
