/- FewestNear and FirstNear by the program. -/
import Derived.Test.YthlbplmghjaeoaeGE
import Derived.Test.YthlbplmghjaeoaeGKD
import Derived.Test.YthlbplmghjaeoaeKG
import Derived.Test.YthlbplmghjaeoaeK1
import Derived.Test.YthlbplmghjaeoaeGJ9
import Derived.Outline
namespace Go.Proofs.Ythlbplmghjaeoae
open Go.RowKit

set_option maxRecDepth 100000 in
set_option maxHeartbeats 400000 in
theorem fnCl_any (x : LB) (w : World) :
    Calls Try.prog 61 #[.agg (encB x).toArray] w fun e w' => e = .returned (.bool (!x.hz)) ∧ Below w.heap.size w w' := by
  have HS := Lib.hid (lbZero_any x)
  go_enter Try.func61, Try.ntmps61
  have hB1 := heap_alloc_new w (.cells (encB x).toArray 45)
  have hR1 : (w.alloc (.cells (encB x).toArray 45)).rangeAt w.heap.size 0 (encB x) := range24 hB1
  have hb1 : Below w.heap.size w (w.alloc (.cells (encB x).toArray 45)) := (Below.refl _ _).alloc (Nat.le_refl _) _
  clear hB1
  generalize hbx : w.heap.size = BX at *
  go_upto_region 1 with fail
  generalize w.alloc (.cells (encB x).toArray 45) = w1 at *
  refine wp_region_lit ?_
  refine wpList_load_mid rfl 45 _ rfl BX 0 rfl (encB x) _ hR1 Try.underlying45 rfl (inf67.trans (by rw [encB_len])) ?_
  clear hR1
  go_wp2_with fail
  refine (HS.out _).mono ?_
  rintro e w2 ⟨rfl, hb2⟩
  go_wp2_with fail
  go_ret
  subst hbx
  exact ⟨rfl, hb1.trans (hb2.mono hb1.size)⟩
set_option maxRecDepth 100000 in
set_option maxHeartbeats 400000 in
theorem firstNear_any (W H : Nat) (hW : 1 ≤ W ∧ W ≤ 8) (hH : 1 ≤ H ∧ H ≤ 8) (h12 : W * H ≤ 12) (w : World) :
    Calls Try.prog 30 #[.int .i64 W, .int .i64 H] w fun e w' => ∃ x : LB, e = .returned (.agg (encB x).toArray) ∧ x.1.take (W * H) = nearT W H ∧ x.mns = (places 42 (nearT W H)).length ∧ Below w.heap.size w w' := by
  have eF : ∀ args w, (callFunc 31 args).run Try.prog w = .ok (.enter 31 args) w := enters_of Try.func31 (by kernel_rfl) rfl
  have hL0 : (listGo W (W * H) (W * H)).length = 2 ^ (W * H) := listGo_length W _ _ h12
  have hL1 : 0 < (listGo W (W * H) (W * H)).length := by rw [hL0]; exact Nat.two_pow_pos _
  have hL2 : (listGo W (W * H) (W * H)).length ≤ 4096 := by rw [hL0]; exact Nat.pow_le_pow_right (by decide) h12
  have hsb := fun w => sortBoards_of W H (listGo W (W * H) (W * H)) hL1 hL2 (listBoards_any W H hW hH h12) 31 LB.mns (fun z => Nat.le_trans (z.mnK_le 12) (by decide)) eF (fun z w => lbMinesA_any z w) w
  have hnf := near_first W H hW hH h12
  generalize listGo W (W * H) (W * H) = L at *
  have HSB := Lib.hid hsb
  have HNF := Lib.hid hnf
  clear hsb hnf eF hL0
  go_enter Try.func30, Try.ntmps30
  have hB0 : (w.alloc (.cells #[.int .u8 0, .int .u8 0, .int .u8 0, .int .u8 0, .int .u8 0, .int .u8 0, .int .u8 0, .int .u8 0, .int .u8 0, .int .u8 0, .int .u8 0, .int .u8 0, .int .u8 0, .int .u8 0, .int .u8 0, .int .u8 0, .int .u8 0, .int .u8 0, .int .u8 0, .int .u8 0, .int .u8 0, .int .u8 0, .int .u8 0, .int .u8 0] 45)).heap[w.heap.size]? = some (.cells #[.int .u8 0, .int .u8 0, .int .u8 0, .int .u8 0, .int .u8 0, .int .u8 0, .int .u8 0, .int .u8 0, .int .u8 0, .int .u8 0, .int .u8 0, .int .u8 0, .int .u8 0, .int .u8 0, .int .u8 0, .int .u8 0, .int .u8 0, .int .u8 0, .int .u8 0, .int .u8 0, .int .u8 0, .int .u8 0, .int .u8 0, .int .u8 0] 45 (0, 0)) := heap_alloc_new w _
  have hb0 : Below w.heap.size w (w.alloc (.cells #[.int .u8 0, .int .u8 0, .int .u8 0, .int .u8 0, .int .u8 0, .int .u8 0, .int .u8 0, .int .u8 0, .int .u8 0, .int .u8 0, .int .u8 0, .int .u8 0, .int .u8 0, .int .u8 0, .int .u8 0, .int .u8 0, .int .u8 0, .int .u8 0, .int .u8 0, .int .u8 0, .int .u8 0, .int .u8 0, .int .u8 0, .int .u8 0] 45)) := (Below.refl _ _).alloc (Nat.le_refl _) _
  have hs0 : w.heap.size < (w.alloc (.cells #[.int .u8 0, .int .u8 0, .int .u8 0, .int .u8 0, .int .u8 0, .int .u8 0, .int .u8 0, .int .u8 0, .int .u8 0, .int .u8 0, .int .u8 0, .int .u8 0, .int .u8 0, .int .u8 0, .int .u8 0, .int .u8 0, .int .u8 0, .int .u8 0, .int .u8 0, .int .u8 0, .int .u8 0, .int .u8 0, .int .u8 0, .int .u8 0] 45)).heap.size := by simp
  go_wp2_with fail
  generalize w.alloc (.cells #[.int .u8 0, .int .u8 0, .int .u8 0, .int .u8 0, .int .u8 0, .int .u8 0, .int .u8 0, .int .u8 0, .int .u8 0, .int .u8 0, .int .u8 0, .int .u8 0, .int .u8 0, .int .u8 0, .int .u8 0, .int .u8 0, .int .u8 0, .int .u8 0, .int .u8 0, .int .u8 0, .int .u8 0, .int .u8 0, .int .u8 0, .int .u8 0] 45) = w0 at *
  refine (HSB.out _).mono ?_
  rintro e w1 ⟨v, rfl, d, hdz, hO, hp, hs, hb1⟩
  obtain ⟨j, hj, f1, f2, f3, f4⟩ := HNF.out d hdz hp hs
  have hO' : OwnsB w1 w0.heap.size v (brds d) := hO
  have hbl : (brds d).length ≤ 4096 := by rw [brds_len, hdz]; exact hL2
  generalize brds d = S at *
  clear hdz hO hp hs
  have eC : ∀ args w, (callFunc 61 args).run Try.prog w = .ok (.enter 61 args) w := enters_of Try.func61 (by kernel_rfl) rfl
  have hix := fun w2 (hO2 : OwnsB w2 w0.heap.size v S) => idxB_any (fun x => !x.hz) 61 #[] S v w0.heap.size w2 (by omega) hO2 f4 eC (fun x W _ => fnCl_any x W)
  have HIX := Lib.hid hix
  have hB1 := (hb1.block _ hs0).trans hB0
  have hb01 := hb0.trans (hb1.mono (by omega))
  clear hix eC HNF HSB hB0 hb1
  go_wp2_with fail
  refine (HIX.out _ hO').mono ?_
  rintro e w2 ⟨rfl, hb2⟩
  rw [f1]
  have hO2 := hO'.later hb2
  obtain ⟨g, cap, cur, rfl, hg1, hg2, hgb, hgc, hgs, hgr⟩ := hO2.open (by omega)
  have hrj := hgr j hj
  have hB2 := (hb2.block _ (block_lt hB1)).trans hB1
  have hb02 := hb01.trans (hb2.mono hb01.size)
  have HB2 := Lib.hid hB2
  have HF2 := Lib.hid f2
  have HF3 := Lib.hid f3
  generalize hxx : S[j] = xj at *
  clear hgr hO' hO2 HIX f1 f2 f3 f4 hxx hB1 hB2 hb01 hgb
  go_wp2_with (first
    | (refine wpList_load_mid rfl 45 _ rfl g (j * 24) rfl (encB xj) _ hrj Try.underlying45 rfl (inf67.trans (by rw [encB_len])) ?_)
    | (refine wpList_store_mid rfl 45 _ _ rfl w.heap.size 0 (encB xj).toArray rfl rfl (by rw [encB_size]; exact there24 HB2.out rfl) (inf67.trans (by rw [encB_size])) (all_oneCell_toArray (encB_one xj)) ?_))
  have hR2 := World.rangeAt_setCells_same w2 w.heap.size 0 (encB xj) (by rw [encB_len]; exact there24 HB2.out rfl)
  have hb3 := below_setCells (g := w.heap.size) (encB xj) 0 hb02 (Nat.le_refl _)
  refine bodyPost_ret (v := .agg (encB xj).toArray) (results_cell rfl rfl (run_loadVar_mid _ _ _ 45 (encB xj) _ hR2 Try.underlying45 rfl (inf67.trans (by rw [encB_len])))) rfl ?_
  exact ⟨xj, rfl, HF2.out, HF3.out, hb3⟩

set_option maxRecDepth 100000 in
set_option maxHeartbeats 400000 in
theorem iFewestNear_any (w h : Int) (ws : World) :
    Calls Try.prog 11 #[.int .i64 w, .int .i64 h] ws fun e w' => e = .returned (.tuple #[.int .i64 (fnM w h : Nat), .bool (szB w h 12)]) ∧ Below ws.heap.size ws w' := by
  have h1 := fun wr => isSmall_any w h wr
  rcases sz_case w h 12 with hs | ⟨hs, W, H, rfl, rfl, hW1, hW2, hH1, hH2, hn⟩
  · rw [hs] at h1
    have HM : Hid (fnM w h = 0) := by rw [Hid, fnM, hs]; rfl
    rw [hs]
    have H1 := Lib.hid h1
    clear hs h1
    go_enter Try.func11, Try.ntmps11
    go_wp2_with fail
    refine (H1.out _).mono ?_
    rintro e w1 ⟨rfl, rfl⟩
    go_wp2_with fail
    go_ret2
    exact ⟨by rw [HM.out]; rfl, Below.refl _ _⟩
  · rw [hs] at h1
    have HM : Hid (fnM W H = (places 42 (nearT W H)).length) := by rw [Hid, fnM, if_pos hs]; rfl
    rw [hs]
    have H1 := Lib.hid h1
    have HN := Lib.hid (firstNear_any W H ⟨hW1, hW2⟩ ⟨hH1, hH2⟩ (by omega))
    clear hs h1
    go_enter Try.func11, Try.ntmps11
    go_wp2_with fail
    refine (H1.out _).mono ?_
    rintro e w1 ⟨rfl, rfl⟩
    go_wp2_with fail
    refine (HN.out _).mono ?_
    rintro e w2 ⟨x, rfl, hx1, hx2, hb2⟩
    have HX2 := Lib.hid hx2
    clear hx1 hx2
    go_wp2_with fail
    refine (lbMines_any x _).mono ?_
    rintro e w3 ⟨rfl, hb3⟩
    go_wp2_with fail
    go_ret2
    exact ⟨by rw [HM.out, ← HX2.out]; rfl, hb2.trans (hb3.mono hb2.size)⟩
set_option maxRecDepth 100000 in
set_option maxHeartbeats 400000 in
theorem iFirstNear_any (w h : Int) (ws : World) :
    Calls Try.prog 13 #[.int .i64 w, .int .i64 h] ws fun e w' => e = .returned (.tuple #[.string ⟨(frM w h).toArray⟩, .bool (szB w h 12)]) ∧ Below ws.heap.size ws w' := by
  have h1 := fun wr => isSmall_any w h wr
  rcases sz_case w h 12 with hs | ⟨hs, W, H, rfl, rfl, hW1, hW2, hH1, hH2, hn⟩
  · rw [hs] at h1
    have HM : Hid (frM w h = []) := by rw [Hid, frM, hs]; rfl
    rw [hs]
    have H1 := Lib.hid h1
    clear hs h1
    go_enter Try.func13, Try.ntmps13
    go_wp2_with fail
    refine (H1.out _).mono ?_
    rintro e w1 ⟨rfl, rfl⟩
    go_wp2_with fail
    go_ret2
    exact ⟨by rw [HM.out]; rfl, Below.refl _ _⟩
  · rw [hs] at h1
    have HM : Hid (frM W H = textM (nearT W H) W H) := by rw [Hid, frM, if_pos hs]; rfl
    rw [hs]
    have H1 := Lib.hid h1
    have h12 : W * H ≤ 12 := by omega
    have HN := Lib.hid (firstNear_any W H ⟨hW1, hW2⟩ ⟨hH1, hH2⟩ h12)
    have HTX := Lib.hid (fun (x : LB) (hx : x.1.take (W * H) = nearT W H) => lbText_any x W H _ hx.symm ⟨hW1, hW2⟩ ⟨hH1, hH2⟩ h12)
    clear hs h1
    go_enter Try.func13, Try.ntmps13
    go_wp2_with fail
    refine (H1.out _).mono ?_
    rintro e w1 ⟨rfl, rfl⟩
    go_wp2_with fail
    refine (HN.out _).mono ?_
    rintro e w2 ⟨x, rfl, hx1, hx2, hb2⟩
    have HT := Lib.hid (HTX.out x hx1)
    clear hx1 hx2 HTX
    generalize textM (nearT W H) W H = T at *
    go_wp2_with fail
    refine (HT.out _).mono ?_
    rintro e w3 ⟨rfl, hb3⟩
    go_wp2_with fail
    go_ret2
    exact ⟨by rw [HM.out]; rfl, hb2.trans (hb3.mono hb2.size)⟩
end Go.Proofs.Ythlbplmghjaeoae
