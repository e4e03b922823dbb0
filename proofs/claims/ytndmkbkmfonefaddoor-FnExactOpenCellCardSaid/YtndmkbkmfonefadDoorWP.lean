/- Views: a hidden cell opened, by the program. -/
import Derived.Test.YtndmkbkmfonefadDoorWO
import Derived.Test.YtndmkbkmfonefadDoorGY1
import Derived.Outline
namespace Go.Proofs.YtndmkbkmfonefadDoor
open Go.RowKit

theorem oc_free {l m : List UInt8} {c : Int} (h : freeOK m c = false) : ocOK l m c = false := by
  cases ho : ocOK l m c with
  | false => rfl
  | true =>
    rw [ocOK, Bool.and_eq_true, Bool.and_eq_true, Bool.and_eq_true] at ho
    obtain ⟨hf, hin, _, hm⟩ := ho
    obtain ⟨hv, hb, e1, e2⟩ := df_yes hf
    have hlen : (gCells m).length = (vC l).length := by rw [(Grd.board hb).len, (Grd.view hv).1.len, e1, e2]
    have hin2 : 0 ≤ c ∧ c < (vC l).length := by simpa [inC] using hin
    rw [freeOK, freeB, if_pos (by omega)] at h
    rw [mineB] at hm
    rw [hm] at h
    exact h

set_option maxRecDepth 100000 in
set_option maxHeartbeats 1600000 in
theorem iOpenCell_no (l m : List UInt8) (c : Int) (w : World) (hM : HasMax w) (hl : l.length ≤ 1048576) (hm : m.length ≤ 1048576) (hc : freeOK m c = false) :
    Calls Tryd.prog 34 #[.string ⟨l.toArray⟩, .string ⟨m.toArray⟩, .int .i64 c] w fun e w' => e = .returned (.tuple #[.string ⟨(ocM l m c).toArray⟩, .bool (ocOK l m c)]) ∧ Below w.heap.size w w' := by
  have HO := Lib.hid (oc_free (l := l) hc)
  have HT := Lib.hid (oc_no (oc_free (l := l) hc))
  have hrf := fun w h => readFree_no m c w h hm hc
  clear hc
  go_enter Tryd.func34, Tryd.ntmps34
  go_wp2_with fail
  refine (readView_any l _ hM hl).mono ?_
  rintro e w1 ⟨a, cap, ah, ch, an, cn, rfl, ho1, ho2, ho3, hb1⟩
  have s1 := hb1.size
  clear ho1 ho2 ho3
  generalize viewM l = vok at *
  generalize vNear l = near at *
  generalize hidM (vC l) = hid at *
  generalize vC l = vc at *
  generalize vW l = W at *
  generalize vH l = H at *
  go_wp2_with fail
  have hba : Below w1.heap.size w1 (w1.alloc (.cells #[.int .i64 W, .int .i64 H, .slice a vc.length cap, .bool false, .slice ah hid.length ch, .slice an near.length cn] 68)) := (Below.refl _ _).alloc (Nat.le_refl _) _
  generalize w1.alloc (.cells #[.int .i64 W, .int .i64 H, .slice a vc.length cap, .bool false, .slice ah hid.length ch, .slice an near.length cn] 68) = w2 at *
  refine (hrf _ ((hM.later hb1).later hba)).mono ?_
  rintro e w3 ⟨rfl, hb3⟩
  have s2 := hba.size
  have s3 := hb3.size
  have hbw : Below w.heap.size w w3 := (hb1.trans (hba.mono s1)).trans (hb3.mono (by omega))
  unfold NoGrid
  go_wp2_with fail
  go_ret2
  exact ⟨by rw [HO.out, HT.out]; rfl, hbw.alloc hbw.size _⟩

set_option maxRecDepth 100000 in
set_option maxHeartbeats 1600000 in
theorem iOpenCell_any (l m : List UInt8) (c : Int) (w : World) (hM : HasMax w) (hl : l.length ≤ 1048576) (hm : m.length ≤ 1048576) :
    Calls Tryd.prog 34 #[.string ⟨l.toArray⟩, .string ⟨m.toArray⟩, .int .i64 c] w fun e w' => e = .returned (.tuple #[.string ⟨(ocM l m c).toArray⟩, .bool (ocOK l m c)]) ∧ Below w.heap.size w w' := by
  cases hc : freeOK m c with
  | false => exact iOpenCell_no l m c w hM hl hm hc
  | true =>
    have hrf := fun w h => readFree_yes m c w h hm hc
    obtain ⟨hb, k, rfl, hk, hnm⟩ := freeOK_yes hc
    have hB := Grd.board hb
    have hcase : (¬ (vW l = gW m ∧ vH l = gH m)) ∨ (viewM l = true ∧ vW l = gW m ∧ vH l = gH m) := by
      by_cases hs : vW l = gW m ∧ vH l = gH m
      · refine .inr ⟨?_, hs⟩
        cases hv : viewM l with
        | true => rfl
        | false =>
          have : vW l = 0 := by rw [vW, if_neg (by rw [hv]; decide)]
          have := hB.w1
          omega
      · exact .inl hs
    rcases hcase with hs | ⟨hv, e1, e2⟩
    · have hno : ocOK l m k = false := by rw [ocOK, df_diff hs]; rfl
      have HO := Lib.hid hno
      have HT := Lib.hid (oc_no hno)
      have hd : gW m ≠ vW l ∨ gH m ≠ vH l := by
        by_cases h1 : gW m = vW l
        · exact .inr (fun q => hs ⟨h1.symm, q.symm⟩)
        · exact .inl h1
      clear hs hno hc hb hB hk hnm
      go_enter Tryd.func34, Tryd.ntmps34
      go_wp2_with fail
      refine (readView_any l _ hM hl).mono ?_
      rintro e w1 ⟨a, cap, ah, ch, an, cn, rfl, ho1, ho2, ho3, hb1⟩
      have s1 := hb1.size
      clear ho1 ho2 ho3
      generalize viewM l = vok at *
      generalize vNear l = near at *
      generalize hidM (vC l) = hid at *
      generalize vC l = vc at *
      generalize vW l = W at *
      generalize vH l = H at *
      go_wp2_with fail
      have hba : Below w1.heap.size w1 (w1.alloc (.cells #[.int .i64 W, .int .i64 H, .slice a vc.length cap, .bool false, .slice ah hid.length ch, .slice an near.length cn] 68)) := (Below.refl _ _).alloc (Nat.le_refl _) _
      have hVa : (w1.alloc (.cells #[.int .i64 W, .int .i64 H, .slice a vc.length cap, .bool false, .slice ah hid.length ch, .slice an near.length cn] 68)).heap[w1.heap.size]? = some (.cells #[.int .i64 W, .int .i64 H, .slice a vc.length cap, .bool false, .slice ah hid.length ch, .slice an near.length cn] 68 (0, 0)) := heap_alloc_new w1 _
      have hsa : w1.heap.size < (w1.alloc (.cells #[.int .i64 W, .int .i64 H, .slice a vc.length cap, .bool false, .slice ah hid.length ch, .slice an near.length cn] 68)).heap.size := by simp
      generalize w1.alloc (.cells #[.int .i64 W, .int .i64 H, .slice a vc.length cap, .bool false, .slice ah hid.length ch, .slice an near.length cn] 68) = w2 at *
      refine (hrf _ ((hM.later hb1).later hba)).mono ?_
      rintro e w3 ⟨a', cap', rfl, ho4, hb3⟩
      generalize gCells m = bc at *
      generalize gW m = X at *
      generalize gH m = Y at *
      have s2 := hba.size
      have s3 := hb3.size
      have hV3 := (hb3.block _ hsa).trans hVa
      have hbw : Below w.heap.size w w3 := (hb1.trans (hba.mono s1)).trans (hb3.mono (by omega))
      have hx0 := cell_of_block hV3 0
      have hx1 := cell_of_block hV3 1
      have hx2 := cell_of_block hV3 2
      have hx3 := cell_of_block hV3 3
      have hx4 := cell_of_block hV3 4
      have hx5 := cell_of_block hV3 5
      simp at hx0 hx1 hx2 hx3 hx4 hx5
      have hlt3 : w1.heap.size < w3.heap.size := by omega
      have hy0 : ∀ o, (w3.alloc o).cell? ⟨w1.heap.size, 0, none⟩ = some (.int .i64 W) := fun o => by rw [cell_new w3 o w1.heap.size hlt3]; exact hx0
      have hy1 : ∀ o, (w3.alloc o).cell? ⟨w1.heap.size, 1, none⟩ = some (.int .i64 H) := fun o => by rw [cell_new w3 o w1.heap.size hlt3]; exact hx1
      have hy2 : ∀ o, (w3.alloc o).cell? ⟨w1.heap.size, 2, none⟩ = some (.slice a vc.length cap) := fun o => by rw [cell_new w3 o w1.heap.size hlt3]; exact hx2
      have hy3 : ∀ o, (w3.alloc o).cell? ⟨w1.heap.size, 3, none⟩ = some (.bool false) := fun o => by rw [cell_new w3 o w1.heap.size hlt3]; exact hx3
      have hy4 : ∀ o, (w3.alloc o).cell? ⟨w1.heap.size, 4, none⟩ = some (.slice ah hid.length ch) := fun o => by rw [cell_new w3 o w1.heap.size hlt3]; exact hx4
      have hy5 : ∀ o, (w3.alloc o).cell? ⟨w1.heap.size, 5, none⟩ = some (.slice an near.length cn) := fun o => by rw [cell_new w3 o w1.heap.size hlt3]; exact hx5
      clear hVa hV3
      go_wp2_with fail
      have hbc : Below w3.heap.size w3 (w3.alloc (.cells #[.int .i64 X, .int .i64 Y, .slice a' bc.length cap', .bool false] 45)) := (Below.refl _ _).alloc (Nat.le_refl _) _
      generalize w3.alloc (.cells #[.int .i64 X, .int .i64 Y, .slice a' bc.length cap', .bool false] 45) = w4 at *
      refine (fitsBoard_diff W H X Y a _ _ ah _ _ an _ _ a' _ _ w4 hd).mono ?_
      rintro e w5 ⟨rfl, hb5⟩
      have s4 := hbc.size
      go_wp2_with fail
      go_ret2
      exact ⟨by rw [HO.out, HT.out]; rfl, (hbw.trans (hbc.mono hbw.size)).trans (hb5.mono (by have := hbw.size; omega))⟩
    · obtain ⟨hG, hsg⟩ := Grd.view hv
      rw [← e1, ← e2] at hB
      have hlen : (gCells m).length = (vC l).length := by rw [hB.len, hG.len]
      have h14 : (hidM (vC l)).length ≤ 14 := by rw [(view_yes hv).2.1]; exact (view_yes hv).2.2
      have hnl : (vNear l).length = (vC l).length := by simp [vNear, nearL]
      have hne : vNear l = nearL (vC l) (vW l) := rfl
      have h64 := hG.n64
      have h64b : (gCells m).length ≤ 64 := by omega
      have hkv : k < (vC l).length := by omega
      have hok : dfOK l m = true := by rw [dfOK, hv, hb]; rfl
      have hdm : dfM l m = fbM (vC l) (gCells m) (vW l) := by rw [(df_same hok e1 e2).1, fb_eq hG.w8 hG.h8 hG.len hlen hsg]
      have h9 : numM (gCells m) (vW l) k ≤ 9 := by have := numM_eight (gCells m) (vW l) (vH l) k hG.w8 hG.h8 hB.len hk; omega
      have hmf : mineB (gCells m) k = false := by simpa [mineB] using hnm
      have hoc : ocOK l m k = (fbM (vC l) (gCells m) (vW l) && unsB (vC l) k) := by
        rw [ocOK, hdm, Int.toNat_natCast, hmf, show inC (vC l).length (k : Int) = true by simp [inC]; omega]
        simp
      have hot : ocOK l m k = true → ocM l m k = textM ((vC l).set k (digB (numM (gCells m) (vW l) k))) (vW l) (vH l) := fun h => by rw [ocM, h]; rfl
      have hon := @oc_no l m k
      have hz : (vW l = 0 ∧ vH l = 0) ∨ ((1 ≤ vW l ∧ vW l ≤ 8) ∧ (1 ≤ vH l ∧ vH l ≤ 8)) := .inr ⟨⟨hG.w1, hG.w8⟩, hG.h1, hG.h8⟩
      have HL := Lib.hid hG.len
      have HLB := Lib.hid hlen
      have hW1 := hG.w1
      have hW8 := hG.w8
      have hH8 := hG.h8
      rw [← e1, ← e2] at hrf
      have hrv := readView_any l w hM hl
      rw [hv, hnl, hne] at hrv
      clear hG hB hsg hv hb hok hnl hne hdm hmf hnm hc e1 e2 hlen
      generalize ocOK l m k = ok at *
      generalize ocM l m k = tx at *
      generalize vC l = vc at *
      generalize vW l = W at *
      generalize vH l = H at *
      generalize gCells m = bc at *
      have HOC := Lib.hid hoc
      have HOT := Lib.hid hot
      have HON := Lib.hid hon
      clear hoc hot hon
      go_enter Tryd.func34, Tryd.ntmps34
      go_wp2_with fail
      refine hrv.mono ?_
      rintro e w1 ⟨a, cap, ah, ch, an, cn, rfl, ho1, ho2, ho3, hb1⟩
      have s1 := hb1.size
      clear hrv
      go_wp2_with fail
      have hba : Below w1.heap.size w1 (w1.alloc (.cells #[.int .i64 W, .int .i64 H, .slice a vc.length cap, .bool false, .slice ah (hidM vc).length ch, .slice an vc.length cn] 68)) := (Below.refl _ _).alloc (Nat.le_refl _) _
      have hVa : (w1.alloc (.cells #[.int .i64 W, .int .i64 H, .slice a vc.length cap, .bool false, .slice ah (hidM vc).length ch, .slice an vc.length cn] 68)).heap[w1.heap.size]? = some (.cells #[.int .i64 W, .int .i64 H, .slice a vc.length cap, .bool false, .slice ah (hidM vc).length ch, .slice an vc.length cn] 68 (0, 0)) := heap_alloc_new w1 _
      have hsa : w1.heap.size < (w1.alloc (.cells #[.int .i64 W, .int .i64 H, .slice a vc.length cap, .bool false, .slice ah (hidM vc).length ch, .slice an vc.length cn] 68)).heap.size := by simp
      have ho1a := ho1.later hba
      have ho2a := ho2.later hba
      have ho3a := ho3.later hba
      have HLT := Lib.hid (fun j hj => (ho1.lt j hj).2)
      generalize w1.alloc (.cells #[.int .i64 W, .int .i64 H, .slice a vc.length cap, .bool false, .slice ah (hidM vc).length ch, .slice an vc.length cn] 68) = w2 at *
      refine (hrf _ ((hM.later hb1).later hba)).mono ?_
      rintro e w3 ⟨a', cap', rfl, ho4, hb3⟩
      have s2 := hba.size
      have s3 := hb3.size
      have hV3 := (hb3.block _ hsa).trans hVa
      have ho1b := ho1a.later hb3
      have ho2b := ho2a.later hb3
      have ho3b := ho3a.later hb3
      have hbw : Below w.heap.size w w3 := (hb1.trans (hba.mono s1)).trans (hb3.mono (by omega))
      have hx0 := cell_of_block hV3 0
      have hx1 := cell_of_block hV3 1
      have hx2 := cell_of_block hV3 2
      have hx3 := cell_of_block hV3 3
      have hx4 := cell_of_block hV3 4
      have hx5 := cell_of_block hV3 5
      simp at hx0 hx1 hx2 hx3 hx4 hx5
      have hlt3 : w1.heap.size < w3.heap.size := by omega
      have hy0 : ∀ o, (w3.alloc o).cell? ⟨w1.heap.size, 0, none⟩ = some (.int .i64 W) := fun o => by rw [cell_new w3 o w1.heap.size hlt3]; exact hx0
      have hy1 : ∀ o, (w3.alloc o).cell? ⟨w1.heap.size, 1, none⟩ = some (.int .i64 H) := fun o => by rw [cell_new w3 o w1.heap.size hlt3]; exact hx1
      have hy2 : ∀ o, (w3.alloc o).cell? ⟨w1.heap.size, 2, none⟩ = some (.slice a vc.length cap) := fun o => by rw [cell_new w3 o w1.heap.size hlt3]; exact hx2
      have hy3 : ∀ o, (w3.alloc o).cell? ⟨w1.heap.size, 3, none⟩ = some (.bool false) := fun o => by rw [cell_new w3 o w1.heap.size hlt3]; exact hx3
      have hy4 : ∀ o, (w3.alloc o).cell? ⟨w1.heap.size, 4, none⟩ = some (.slice ah (hidM vc).length ch) := fun o => by rw [cell_new w3 o w1.heap.size hlt3]; exact hx4
      have hy5 : ∀ o, (w3.alloc o).cell? ⟨w1.heap.size, 5, none⟩ = some (.slice an vc.length cn) := fun o => by rw [cell_new w3 o w1.heap.size hlt3]; exact hx5
      clear ho1 ho2 ho3 ho1a ho2a ho3a hVa
      go_wp2_with fail
      have hbc : Below w3.heap.size w3 (w3.alloc (.cells #[.int .i64 W, .int .i64 H, .slice a' bc.length cap', .bool false] 45)) := (Below.refl _ _).alloc (Nat.le_refl _) _
      have hGa : (w3.alloc (.cells #[.int .i64 W, .int .i64 H, .slice a' bc.length cap', .bool false] 45)).heap[w3.heap.size]? = some (.cells #[.int .i64 W, .int .i64 H, .slice a' bc.length cap', .bool false] 45 (0, 0)) := heap_alloc_new w3 _
      have hsc : w3.heap.size < (w3.alloc (.cells #[.int .i64 W, .int .i64 H, .slice a' bc.length cap', .bool false] 45)).heap.size := by simp
      have s4 := hbc.size
      have ho1c := ho1b.later hbc
      have hat2 := ho2b.at.later rfl hbc
      have hat3 := ho3b.at.later rfl hbc
      have ho4c := ho4.later hbc
      have hV4 := (hbc.block _ hlt3).trans hV3
      generalize w3.alloc (.cells #[.int .i64 W, .int .i64 H, .slice a' bc.length cap', .bool false] 45) = w4 at *
      refine (fitsBoard_same W H a cap vc bc ah ch an cn a' cap' w4 ho1c.at hat2 hat3 ho4c.at h14 hW8 hH8 HL.out h64 HLB.out).mono ?_
      rintro e w5 ⟨rfl, hb5⟩
      have s5 := hb5.size
      have ho1d := ho1c.later hb5
      have ho4d := ho4c.later hb5
      have hV5 := (hb5.block _ (by omega)).trans hV4
      have hG5 := (hb5.block _ hsc).trans hGa
      have hbw5 : Below w.heap.size w w5 := (hbw.trans (hbc.mono (by omega))).trans (hb5.mono (by omega))
      clear hx0 hx1 hx2 hx3 hx4 hy0 hy1 hy2 hy3 hy4 hV3 hV4 hGa ho1b ho2b ho3b ho1c ho4c hat2 hat3 ho4
      cases hf : fbM vc bc W with
      | false =>
        have HO : Hid (ok = false) := by rw [Hid, HOC.out, hf]; rfl
        have HT := Lib.hid (HON.out HO.out)
        clear hf
        go_wp2_with fail
        go_ret2
        exact ⟨by rw [HO.out, HT.out]; rfl, hbw5⟩
      | true =>
        rw [hf, Bool.true_and] at HOC
        have hx0 := cell_of_block hV5 0
        have hx1 := cell_of_block hV5 1
        have hx2 := cell_of_block hV5 2
        have hx3 := cell_of_block hV5 3
        have hx4 := cell_of_block hV5 4
        have hx5 := cell_of_block hV5 5
        simp at hx0 hx1 hx2 hx3 hx4 hx5
        have hun := isUnseen_any W H a vc cap k w5 ho1d.at hkv h64
        clear hf
        go_wp2_with fail
        refine hun.mono ?_
        rintro e w6 ⟨rfl, hb6⟩
        have s6 := hb6.size
        have ho1e := ho1d.later hb6
        have ho4e := ho4d.later hb6
        have hV6 := (hb6.block _ (by omega)).trans hV5
        have hG6 := (hb6.block _ (by omega)).trans hG5
        have hbw6 : Below w.heap.size w w6 := hbw5.trans (hb6.mono (by omega))
        clear hun hx0 hx1 hx2 hx3 hx4 hV5 hG5 ho1d ho4d
        cases hu : unsB vc k with
        | false =>
          have HO : Hid (ok = false) := by rw [Hid, HOC.out, hu]
          have HT := Lib.hid (HON.out HO.out)
          clear hu
          go_wp2_with fail
          go_ret2
          exact ⟨by rw [HO.out, HT.out]; rfl, hbw6⟩
        | true =>
          have HO : Hid (ok = true) := by rw [Hid, HOC.out, hu]
          have HT := Lib.hid (HOT.out HO.out)
          clear hu
          have hcap := ho1e.cap
          obtain ⟨g, rfl, hg1, hg2⟩ := ho1e.zero (by simp; omega)
          have hgl : g < w1.heap.size := HLT.out g rfl
          have hkeep : ∀ w', Below w6.heap.size w6 w' → w'.cell? ⟨w1.heap.size, 2, none⟩ = some (.slice (some ⟨g, 0, none⟩) vc.length cap) ∧ w'.cell? ⟨w3.heap.size, 0, none⟩ = some (.int .i64 W) ∧ w'.cell? ⟨w3.heap.size, 1, none⟩ = some (.int .i64 H) ∧ w'.cell? ⟨w3.heap.size, 2, none⟩ = some (.slice a' bc.length cap') ∧ w'.cell? ⟨w3.heap.size, 3, none⟩ = some (.bool false) := by
            intro w' h
            have q := (h.block _ (by omega)).trans hV6
            have r := (h.block _ (by omega)).trans hG6
            have q2 := cell_of_block q 2
            have r0 := cell_of_block r 0
            have r1 := cell_of_block r 1
            have r2 := cell_of_block r 2
            have r3 := cell_of_block r 3
            simp at q2 r0 r1 r2 r3
            exact ⟨q2, r0, r1, r2, r3⟩
          have hkeepS : ∀ (w' : World) (v : Value), Below w6.heap.size w6 w' → (w'.setCell ⟨g, k, none⟩ v).cell? ⟨w1.heap.size, 2, none⟩ = some (.slice (some ⟨g, 0, none⟩) vc.length cap) ∧ (w'.setCell ⟨g, k, none⟩ v).cell? ⟨w3.heap.size, 0, none⟩ = some (.int .i64 W) ∧ (w'.setCell ⟨g, k, none⟩ v).cell? ⟨w3.heap.size, 1, none⟩ = some (.int .i64 H) ∧ (w'.setCell ⟨g, k, none⟩ v).cell? ⟨w3.heap.size, 2, none⟩ = some (.slice a' bc.length cap') ∧ (w'.setCell ⟨g, k, none⟩ v).cell? ⟨w3.heap.size, 3, none⟩ = some (.bool false) := by
            intro w' v h
            have q := (blockAwayV (w := w') (show w1.heap.size ≠ g by omega) k v).trans ((h.block _ (by omega)).trans hV6)
            have r := (blockAwayV (w := w') (show w3.heap.size ≠ g by omega) k v).trans ((h.block _ (by omega)).trans hG6)
            have q2 := cell_of_block q 2
            have r0 := cell_of_block r 0
            have r1 := cell_of_block r 1
            have r2 := cell_of_block r 2
            have r3 := cell_of_block r 3
            simp at q2 r0 r1 r2 r3
            exact ⟨q2, r0, r1, r2, r3⟩
          have hold : ∀ w', Below w6.heap.size w6 w' → ∃ old, w'.cell? ⟨g, k, none⟩ = some old ∧ w'.frozen? ⟨g, k, none⟩ = false := by
            intro w' h
            have ho := ho1e.later h
            obtain ⟨g', o', he, hcell⟩ := byts_at ho.at k hkv
            simp only [Option.some.injEq, Addr.mk.injEq, and_true] at he
            obtain ⟨rfl, rfl⟩ := he
            rw [Nat.zero_add] at hcell
            exact ⟨_, hcell, ho.froz k⟩
          have hnum := fun w h => number_any W H a' bc cap' k w h hW1 hk h64b
          have hatb := ho4e.at
          have HK := Lib.hid hkeep
          have HKS := Lib.hid hkeepS
          have HOD := Lib.hid hold
          have HNU := Lib.hid hnum
          have HV6 := Lib.hid hV6
          have HG6 := Lib.hid hG6
          have hdr : Below w6.heap.size w6 w6.drew := (Below.refl _ w6).drew
          clear hkeep hkeepS hold hnum hV6 hG6 ho4e
          go_wp2_with fail
          go_region_held3 (fun w' => w'.cell? ⟨w1.heap.size, 2, none⟩ = some (.slice (some ⟨g, 0, none⟩) vc.length cap) ∧ w'.cell? ⟨w3.heap.size, 0, none⟩ = some (.int .i64 W) ∧ w'.cell? ⟨w3.heap.size, 1, none⟩ = some (.int .i64 H) ∧ w'.cell? ⟨w3.heap.size, 2, none⟩ = some (.slice a' bc.length cap') ∧ w'.cell? ⟨w3.heap.size, 3, none⟩ = some (.bool false))
            (first | with_reducible exact HK.out _ hdr | with_reducible exact HK.out _ hb67 | with_reducible exact HKS.out _ _ hb67)
            ((first | (go_at_call 68; refine (HNU.out _ (by exact hatb.drew)).mono ?_; rintro e w7 ⟨rfl, hb7⟩; have hb67 : Below w6.heap.size w6 w7 := ofDrew hb7; obtain ⟨old7, hc7, hf7⟩ := HOD.out _ hb67) | (go_at_call 67; refine (digit_any _ _ h9).mono ?_; rintro e w8 ⟨rfl, rfl⟩)))
          have hst := (ho1e.later hb67).put k (.int .u8 ((digB (numM bc W k)).toNat : Int))
          rw [byts_set] at hst
          have hS7 := (blockAwayV (w := w7) (show w1.heap.size ≠ g by omega) k (.int .u8 ((digB (numM bc W k)).toNat : Int))).trans ((hb67.block _ (by omega)).trans HV6.out)
          have hz0 := cell_of_block hS7 0
          have hz1 := cell_of_block hS7 1
          have hz2 := cell_of_block hS7 2
          have hz3 := cell_of_block hS7 3
          simp at hz0 hz1 hz2 hz3
          have ht := text_any W H _ (vc.set k (digB (numM bc W k))) cap _ hst.at (by simpa using hcap) (by simpa using HL.out) hz
          rw [List.length_set] at ht
          have HTX := Lib.hid ht
          have hb8 := (hbw6.trans (hb67.mono (by omega))).trans ((Below.set (w := w7) (g := g) k (.int .u8 ((digB (numM bc W k)).toNat : Int))).mono hg1)
          clear ht hst hS7 hb7 hc7 hf7 hb67
          go_wp2_with fail
          refine HTX.out.mono ?_
          rintro e w8 ⟨rfl, hb9⟩
          go_wp2_with fail
          go_ret2
          exact ⟨by rw [HO.out, HT.out]; rfl, hb8.trans (hb9.mono hb8.size)⟩
end Go.Proofs.YtndmkbkmfonefadDoor
