/- Puzzles made harder, by the program. -/
import Derived.Test.YtnnbkbjhombblabAQ
import Derived.Test.YtnnbkbjhombblabAL
namespace Go.Proofs.Ytnnbkbjhombblab
open Go.RowKit

/-- Is there just one solution of some clues? -/
def oneC (W H : Nat) (cs : List Clu) : Bool := ((solC W (W * H) cs).length : Int) == 1
/-- The clues that are left. -/
def hardC (W H : Nat) : Nat → Nat → List Clu → List Clu
  | 0, _, cs => cs
  | f + 1, k, cs => if oneC W H (cs.eraseIdx k) = true then hardC W H f k (cs.eraseIdx k) else hardC W H f (k + 1) cs
theorem hardC_step {W H k : Nat} {cs : List Clu} (hk : k < cs.length) : hardC W H (cs.length - k) k cs = if oneC W H (cs.eraseIdx k) = true then hardC W H ((cs.eraseIdx k).length - k) k (cs.eraseIdx k) else hardC W H (cs.length - (k + 1)) (k + 1) cs := by
  obtain ⟨f, hf⟩ : ∃ f, cs.length - k = f + 1 := ⟨cs.length - k - 1, by omega⟩
  have h1 : (cs.eraseIdx k).length - k = f := by rw [List.length_eraseIdx_of_lt hk]; omega
  have h2 : cs.length - (k + 1) = f := by omega
  rw [hf, h1, h2, hardC]
theorem hardC_len (W H : Nat) : ∀ (f k : Nat) (cs : List Clu), (hardC W H f k cs).length ≤ cs.length
  | 0, _, _ => Nat.le_refl _
  | f + 1, k, cs => by
    rw [hardC]
    split
    · exact Nat.le_trans (hardC_len W H f k _) (List.length_eraseIdx_le cs k)
    · exact hardC_len W H f (k + 1) cs
def lenAt (w : World) (P : Nat) : Nat := match w.cell? ⟨P, 2, none⟩ with | some (.slice _ n _) => n | _ => 0
set_option maxRecDepth 100000 in
set_option maxHeartbeats 3200000 in
theorem harder_any (W H B n cap : Nat) (a : Option Addr) (cs : List Clu) (w : World) (hW : 1 ≤ W ∧ W ≤ 8) (hH : 1 ≤ H ∧ H ≤ 8) (h9 : W * H ≤ 9) (h8 : cs.length ≤ 8) (hc : ∀ c ∈ cs, cluB W H c = true) (hR : RowC w B (.slice a n cap) cs) (hB : B ≤ w.heap.size) :
    Calls Try.prog 47 #[.agg #[.int .i64 W, .int .i64 H, .slice a n cap]] w fun e w' => ∃ v, e = .returned (.agg #[.int .i64 W, .int .i64 H, v]) ∧ RowC w' B v (hardC W H cs.length 0 cs) ∧ Below w.heap.size w w' := by
  obtain ⟨a1, cap1, hv⟩ := hR.shape
  obtain ⟨rfl, rfl, rfl⟩ : a = a1 ∧ n = cs.length ∧ cap = cap1 := by simpa using hv
  have hb : Below w.heap.size w ((w.alloc (.cells #[.int .i64 W, .int .i64 H, .slice a cs.length cap] 30)).alloc (.cells #[.int .i64 0, .int .i64 0, .slice none 0 0] 30)) := ((Below.refl _ _).alloc (Nat.le_refl _) _).alloc (by simp) _
  have hG := blk0 w (.cells #[.int .i64 W, .int .i64 H, .slice a cs.length cap] 30) (.cells #[.int .i64 0, .int .i64 0, .slice none 0 0] 30)
  have hE := blk1 w (.cells #[.int .i64 W, .int .i64 H, .slice a cs.length cap] 30) (.cells #[.int .i64 0, .int .i64 0, .slice none 0 0] 30)
  have hR0 := hR.below hb
  have HC := Lib.hid (fun n' cap' a' (ds : List Clu) w (h8 : ds.length ≤ 8) (hd : ∀ c ∈ ds, cluB W H c = true) (hn : n' = ds.length) hat => countSol_any W H n' cap' a' ds w hW hH h9 hn (by omega) hd hat)
  have HWO := Lib.hid (fun n' cap' k a' (ds : List Clu) w' hR hk hB (hl : ds.length ≤ 8) => without_any (W : Int) (H : Int) B n' cap' k a' ds w' hR hk hB (by omega))
  have HCC := Lib.hid hc
  have HH : Hid (hardC W H cs.length 0 cs = hardC W H (cs.length - 0) 0 cs) := rfl
  clear hc hR hv
  go_enter Try.func47, Try.ntmps47
  go_upto_region 1 with fail
  generalize (w.alloc (.cells #[.int .i64 W, .int .i64 H, .slice a cs.length cap] 30)).alloc (.cells #[.int .i64 0, .int .i64 0, .slice none 0 0] 30) = w0 at *
  go_wp2_with fail
  go_loopw [3] (fun i wr => ∃ (k : Nat) (a' : Option Addr) (c' : Nat) (ds : List Clu), k ≤ ds.length ∧ ds.length ≤ 8 ∧ i = .int .i64 k ∧ Hid (∀ c ∈ ds, cluB W H c = true) ∧ wr.heap[w.heap.size]? = some (.cells #[.int .i64 W, .int .i64 H, .slice a' ds.length c'] 30 (0, 0)) ∧ wr.heap[w.heap.size + 1]? = some (.cells #[.int .i64 0, .int .i64 0, .slice none 0 0] 30 (0, 0)) ∧ RowC wr B (.slice a' ds.length c') ds ∧ Hid (hardC W H cs.length 0 cs = hardC W H (ds.length - k) k ds) ∧ Below w.heap.size w wr) (fun i wr => lenAt wr w.heap.size - (intOf i).toNat)
  case atStart => exact ⟨0, a, cap, cs, Nat.zero_le _, h8, rfl, HCC, hG, hE, hR0, HH, hb⟩
  case round =>
    clear hG hE hR0 hb HH
    obtain ⟨k, a', c', ds, hk, hd8, rfl, hdc, hG, hE, hR, HH, hbr⟩ := hrel
    have f0 := cell_of_block hG 0
    have f1 := cell_of_block hG 1
    have f2 := cell_of_block hG 2
    simp at f0 f1 f2
    have HLW : Hid (lenAt wr w.heap.size = ds.length) := by rw [Hid, lenAt, cell_of_block hG 2]; rfl
    have HG := Lib.hid hG
    have HE := Lib.hid hE
    clear hG hE
    by_cases hlt : k < ds.length
    · have HS := Lib.hid (hardC_step (W := W) (H := H) hlt)
      go_wp2_with fail
      refine (HWO.out _ _ k _ ds wr hR hlt (Nat.le_trans hB hbr.size) hd8).mono ?_
      rintro e w2 ⟨v2, rfl, hR2, hb2⟩
      obtain ⟨a2, n2, c2, hv⟩ := hR2.form
      subst hv
      have hG2 := (hb2.block _ (block_lt HG.out)).trans HG.out
      have hE2 := (hb2.block _ (block_lt HE.out)).trans HE.out
      have hbr2 := hbr.trans (hb2.mono hbr.size)
      have hRo := hR.below hb2
      have hel : Hid ((ds.eraseIdx k).length = ds.length - 1) := List.length_eraseIdx_of_lt hlt
      have hdc2 : ∀ c ∈ ds.eraseIdx k, cluB W H c = true := fun c h => hdc.out c (List.mem_of_mem_eraseIdx h)
      obtain rfl : n2 = (ds.eraseIdx k).length := by
        obtain ⟨a3, c3, hv3⟩ := hR2.shape
        simp only [Value.slice.injEq] at hv3
        exact hv3.2.1
      have hb3 : Below w2.heap.size w2 (w2.alloc (.cells #[.int .i64 W, .int .i64 H, .slice a2 (ds.eraseIdx k).length c2] 30)) := (Below.refl _ _).alloc (Nat.le_refl _) _
      have hX3 := heap_alloc_new w2 (.cells #[.int .i64 W, .int .i64 H, .slice a2 (ds.eraseIdx k).length c2] 30)
      go_upto_region 4 with fail
      have hG3 := (hb3.block _ (block_lt hG2)).trans hG2
      have hE3 := (hb3.block _ (block_lt hE2)).trans hE2
      have hbr3 := hbr2.trans (hb3.mono hbr2.size)
      have hRo3 := hRo.below hb3
      have hR3 := hR2.below hb3
      clear hR hb2 hbr HG HE hG2 hE2 hbr2 hRo hR2 hb3 f0 f1 f2
      generalize w2.alloc (.cells #[.int .i64 W, .int .i64 H, .slice a2 (ds.eraseIdx k).length c2] 30) = w3 at *
      generalize w2.heap.size = X at *
      have q0 := cell_of_block hX3 0
      have q1 := cell_of_block hX3 1
      have q2 := cell_of_block hX3 2
      simp at q0 q1 q2
      have HG := Lib.hid hG3
      have HE := Lib.hid hE3
      have HX := Lib.hid hX3
      clear hG3 hE3 hX3
      go_wp2_with fail
      refine (HC.out _ _ _ (ds.eraseIdx k) w3 (by have := hel.out; omega) hdc2 rfl hR3.at).mono ?_
      rintro e w4 ⟨rfl, hb4⟩
      have hG4 := (hb4.block _ (block_lt HG.out)).trans HG.out
      have hE4 := (hb4.block _ (block_lt HE.out)).trans HE.out
      have hX4 := (hb4.block _ (block_lt HX.out)).trans HX.out
      have hbr4 := hbr3.trans (hb4.mono hbr3.size)
      have hRo4 := hRo3.below hb4
      have hR4 := hR3.below hb4
      clear hb4 hbr3 hRo3 hR3 HG HE HX q0 q1 q2
      have ho : Hid (oneC W H (ds.eraseIdx k) = (((solC W (W * H) (ds.eraseIdx k)).length : Int) == 1)) := rfl
      cases h1 : oneC W H (ds.eraseIdx k) with
      | true =>
        have ho1 := ho.out.symm.trans h1
        have HS2 : Hid (hardC W H (ds.length - k) k ds = hardC W H ((ds.eraseIdx k).length - k) k (ds.eraseIdx k)) := by rw [Hid, HS.out, h1]; rfl
        clear h1 ho HS
        have q0 := cell_of_block hX4 0
        have q1 := cell_of_block hX4 1
        have q2 := cell_of_block hX4 2
        have p0 := cell_of_block hG4 0
        have p1 := cell_of_block hG4 1
        have p2 := cell_of_block hG4 2
        have pf := frozen_of_block hG4
        simp at q0 q1 q2 p0 p1 p2
        have HG := Lib.hid hG4
        have HE := Lib.hid hE4
        clear hG4 hE4 hX4
        obtain ⟨hG5, hb5⟩ := puzzle_stored (B := w.heap.size) HG.out (Nat.le_refl _) (.int .i64 W) (.int .i64 H) (.slice a2 (ds.eraseIdx k).length c2)
        have hE5 := (away_setC (w := (w4.setCell ⟨w.heap.size, 0, none⟩ (.int .i64 W)).setCell ⟨w.heap.size, 1, none⟩ (.int .i64 H)) (j := 2) (v := .slice a2 (ds.eraseIdx k).length c2) (show w.heap.size + 1 ≠ w.heap.size by omega)).trans ((away_setC (w := w4.setCell ⟨w.heap.size, 0, none⟩ (.int .i64 W)) (j := 1) (v := .int .i64 H) (show w.heap.size + 1 ≠ w.heap.size by omega)).trans ((away_setC (w := w4) (j := 0) (v := .int .i64 W) (show w.heap.size + 1 ≠ w.heap.size by omega)).trans HE.out))
        have hR5 := hR4.put3 (x := .int .i64 W) (y := .int .i64 H) (z := .slice a2 (ds.eraseIdx k).length c2) HG.out
        have hlm : lenAt (((w4.setCell ⟨w.heap.size, 0, none⟩ (.int .i64 W)).setCell ⟨w.heap.size, 1, none⟩ (.int .i64 H)).setCell ⟨w.heap.size, 2, none⟩ (.slice a2 (ds.eraseIdx k).length c2)) w.heap.size = (ds.eraseIdx k).length := by
          rw [lenAt, cell_of_block hG5 2]; rfl
        have HLM := Lib.hid hlm
        clear hlm
        go_wp2_with fail
        go_roundw
        case rel => exact ⟨k, a2, c2, ds.eraseIdx k, by have := hel.out; omega, by have := hel.out; omega, rfl, hdc2, hG5, hE5, hR5, by rw [Hid, HH.out, HS2.out], hbr4.trans hb5⟩
        case measure => rw [HLW.out, HLM.out]; have := hel.out; simp only [intOf]; omega
      | false =>
        have ho1 := ho.out.symm.trans h1
        have HS2 : Hid (hardC W H (ds.length - k) k ds = hardC W H (ds.length - (k + 1)) (k + 1) ds) := by rw [Hid, HS.out, h1]; rfl
        clear h1 ho HS
        have HLM : Hid (lenAt w4 w.heap.size = ds.length) := by rw [Hid, lenAt, cell_of_block hG4 2]; rfl
        go_wp2_with fail
        go_roundw
        case rel => exact ⟨k + 1, a', c', ds, by omega, hd8, by go_num, hdc, hG4, hE4, hRo4, by rw [Hid, HH.out, HS2.out], hbr4⟩
        case measure => rw [HLW.out, HLM.out]; simp only [intOf]; omega
    · obtain rfl : k = ds.length := by omega
      have z0 := cell_of_block HE.out 0
      have z1 := cell_of_block HE.out 1
      have z2 := cell_of_block HE.out 2
      have zf := frozen_of_block HE.out
      simp at z0 z1 z2
      go_wp2_with fail
      obtain ⟨hE5, hb5⟩ := puzzle_stored (B := w.heap.size) HE.out (by omega) (.int .i64 W) (.int .i64 H) (.slice a' ds.length c')
      rw [Nat.sub_self] at HH
      exact bodyPost_ret (results_cell_row rfl _ _ _ _ _ _ _ rfl hE5 Try.underlying30 rfl infPuz) rfl ⟨_, rfl, by rw [HH.out]; exact hR.put3 HE.out, hbr.trans hb5⟩
end Go.Proofs.Ytnnbkbjhombblab
