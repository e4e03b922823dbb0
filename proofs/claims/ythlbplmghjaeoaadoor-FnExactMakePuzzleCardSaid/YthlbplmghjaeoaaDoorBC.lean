/- Puzzles that are made, by the program: the numbers and the clues that are drawn. -/
import Derived.Test.YthlbplmghjaeoaaDoorBA
import Derived.Test.YthlbplmghjaeoaaDoorAH
import Derived.Test.YthlbplmghjaeoaaDoorA4
namespace Go.Proofs.YthlbplmghjaeoaaDoor
open Go.RowKit

set_option maxRecDepth 100000 in
set_option maxHeartbeats 800000 in
theorem next_any (g z c : Nat) (t : TypeId) (w : World) (hz : z < 10007) (hc : 0 < c) (hc2 : c ≤ 1000) (hg : w.heap[g]? = some (.cells #[.int .i64 z] t (0, 0))) :
    Calls Tryd.prog 75 #[.pointer (some ⟨g, 0, none⟩), .int .i64 c] w fun e w' => e = .returned (.int .i64 (nxN z % c : Nat)) ∧ w' = w.setCell ⟨g, 0, none⟩ (.int .i64 (nxN z : Nat)) := by
  have h0 := cell_of_block hg 0
  have hf := frozen_of_block hg 0
  simp at h0
  have E : Hid (((z : Int) * 149 + 2719) % 10007 = ((nxN z : Nat) : Int)) := by
    rw [Hid]
    have : (z : Int) * 149 + 2719 = ((149 * z + 2719 : Nat) : Int) := by omega
    rw [this]
    exact (Int.natCast_emod _ _).symm
  have EC : Hid (((nxN z : Nat) : Int) % (c : Int) = ((nxN z % c : Nat) : Int)) := (Int.natCast_emod _ _).symm
  have hn := nxN_lt z
  have hcz : ((c : Int) == 0) = false := by simp; omega
  go_enter Tryd.func75, Tryd.ntmps75
  go_wp2_with fail
  rw [E.out, EC.out]
  go_ret
  exact ⟨rfl, rfl⟩
theorem plC_kd (W H z : Nat) (hW : 1 ≤ W) (hH : 1 ≤ H) : (0 < plC W H (kdN z : Nat)) ↔ twN z = true := by
  have h6 := kdN_lt z
  have hWH : 0 < W * H := Nat.mul_pos hW hH
  unfold twN plC
  generalize kdN z = k at *
  rcases (by omega : k = 0 ∨ k = 1 ∨ k = 2 ∨ k = 3 ∨ k = 4 ∨ k = 5) with rfl | rfl | rfl | rfl | rfl | rfl <;> simp <;> omega
theorem plC_mod (W H z : Nat) (ht : twN z = true) : nxN (nxN z) % plC W H (kdN z : Nat) = plN W H z := by
  have h6 := kdN_lt z
  rw [plN, if_pos ht]
  unfold twN at ht
  unfold plC
  generalize kdN z = k at *
  rcases (by omega : k = 0 ∨ k = 1 ∨ k = 2 ∨ k = 3 ∨ k = 4 ∨ k = 5) with rfl | rfl | rfl | rfl | rfl | rfl <;> simp at ht ⊢
/-- Only what is in one block turns; blocks are made. -/
def Spare (g : Nat) (w w' : World) : Prop := (∀ B, B ≤ g → Below B w w') ∧ ∀ b, b < w.heap.size → b ≠ g → w'.heap[b]? = w.heap[b]?
theorem Spare.size {g : Nat} {w w' : World} (h : Spare g w w') : w.heap.size ≤ w'.heap.size := (h.1 0 (Nat.zero_le _)).size
theorem Spare.of {g : Nat} {w w' : World} (hg : g < w.heap.size) (h : Below w.heap.size w w') : Spare g w w' := ⟨fun _ hB => h.mono (by omega), fun b hb _ => h.block b hb⟩
theorem Spare.set {g : Nat} (w : World) (j : Nat) (v : Value) : Spare g w (w.setCell ⟨g, j, none⟩ v) := ⟨fun _ hB => (Below.set j v).mono hB, fun _ _ hne => away_setC hne⟩
theorem Spare.trans {g : Nat} {w w' w'' : World} (h : Spare g w w') (k : Spare g w' w'') : Spare g w w'' := ⟨fun B hB => (h.1 B hB).trans (k.1 B hB), fun b hb hne => (k.2 b (Nat.lt_of_lt_of_le hb h.size) hne).trans (h.2 b hb hne)⟩
set_option maxRecDepth 100000 in
set_option maxHeartbeats 3200000 in
theorem drawClue_any (W H m cap g z : Nat) (a : Option Addr) (u : List UInt8) (t : TypeId) (w : World) (hW : 1 ≤ W ∧ W ≤ 8) (hH : 1 ≤ H ∧ H ≤ 8) (h9 : W * H ≤ 9) (hu : u.length = W * H) (hb2 : Brd2 u) (hz : z < 10007) (hg : w.heap[g]? = some (.cells #[.int .i64 z] t (0, 0))) :
    Calls Tryd.prog 43 #[.agg #[.int .i64 W, .int .i64 H, .slice a m cap], .agg (encB (preB W (W * H) u)).toArray, .pointer (some ⟨g, 0, none⟩)] w fun e w' => e = .returned (valC (mkC W H u z)) ∧ w'.heap[g]? = some (.cells #[.int .i64 (zzN z : Nat)] t (0, 0)) ∧ Spare g w w' := by
  have hgl := block_lt hg
  have hb0 : Spare g w (((w.alloc (.cells #[.int .i64 W, .int .i64 H, .slice a m cap] 31)).alloc (.cells (encB (preB W (W * H) u)).toArray 65)).alloc (.cells #[.int .i64 0, .int .i64 0, .int .i64 0] 26)) := Spare.of hgl ((((Below.refl _ _).alloc (Nat.le_refl _) _).alloc (by simp) _).alloc (by simp; omega) _)
  obtain ⟨hP0, hL0, hC0⟩ := blk3 w (.cells #[.int .i64 W, .int .i64 H, .slice a m cap] 31) (.cells (encB (preB W (W * H) u)).toArray 65) (.cells #[.int .i64 0, .int .i64 0, .int .i64 0] 26)
  have hG0 : (((w.alloc (.cells #[.int .i64 W, .int .i64 H, .slice a m cap] 31)).alloc (.cells (encB (preB W (W * H) u)).toArray 65)).alloc (.cells #[.int .i64 0, .int .i64 0, .int .i64 0] 26)).heap[g]? = some (.cells #[.int .i64 z] t (0, 0)) := by
    rw [Below.heap_alloc _ _ _ (by simp; omega), Below.heap_alloc _ _ _ (by simp; omega), Below.heap_alloc _ _ _ hgl]; exact hg
  have HPL := Lib.hid (fun w => places_any W H m cap a (kdN z : Nat) w hW hH)
  have HN := Lib.hid (fun c w hc h2 hg => next_any g z c t w hz hc h2 hg)
  go_enter Tryd.func43, Tryd.ntmps43
  go_wp2_with fail
  rw [show w.heap.size + 1 + 1 = w.heap.size + 2 from rfl]
  generalize ((w.alloc (.cells #[.int .i64 W, .int .i64 H, .slice a m cap] 31)).alloc (.cells (encB (preB W (W * H) u)).toArray 65)).alloc (.cells #[.int .i64 0, .int .i64 0, .int .i64 0] 26) = w0 at *
  refine (HN.out 6 w0 (by decide) (by decide) hG0).mono ?_
  rintro e w1 ⟨rfl, rfl⟩
  have hP1 : Hid ((w0.setCell ⟨g, 0, none⟩ (.int .i64 (nxN z : Nat))).heap[w.heap.size]? = some (.cells #[.int .i64 W, .int .i64 H, .slice a m cap] 31 (0, 0))) := (away_setC (by omega)).trans hP0
  have hL1 : Hid ((w0.setCell ⟨g, 0, none⟩ (.int .i64 (nxN z : Nat))).heap[w.heap.size + 1]? = some (.cells (encB (preB W (W * H) u)).toArray 65 (0, 0))) := (away_setC (by omega)).trans hL0
  have hC1 : Hid ((w0.setCell ⟨g, 0, none⟩ (.int .i64 (nxN z : Nat))).heap[w.heap.size + 2]? = some (.cells #[.int .i64 0, .int .i64 0, .int .i64 0] 26 (0, 0))) := (away_setC (by omega)).trans hC0
  have hG1 : Hid ((w0.setCell ⟨g, 0, none⟩ (.int .i64 (nxN z : Nat))).heap[g]? = some (.cells #[.int .i64 (nxN z : Nat)] t (0, 0))) := block_set hG0 0 _
  have hb1 := hb0.trans (Spare.set w0 0 (.int .i64 (nxN z : Nat)))
  clear hP0 hL0 hC0 hG0 hb0
  generalize w0.setCell ⟨g, 0, none⟩ (.int .i64 (nxN z : Nat)) = w1 at *
  have p0 := cell_of_block hP1.out 0
  have p1 := cell_of_block hP1.out 1
  have p2 := cell_of_block hP1.out 2
  simp at p0 p1 p2
  have hkd : nxN z % 6 = kdN z := rfl
  rw [hkd]
  go_wp2_with fail
  refine (HPL.out _).mono ?_
  rintro e w2 ⟨rfl, hb2⟩
  have hP2 : Hid (w2.heap[w.heap.size]? = some (.cells #[.int .i64 W, .int .i64 H, .slice a m cap] 31 (0, 0))) := (hb2.block _ (block_lt hP1.out)).trans hP1.out
  have hL2 : Hid (w2.heap[w.heap.size + 1]? = some (.cells (encB (preB W (W * H) u)).toArray 65 (0, 0))) := (hb2.block _ (block_lt hL1.out)).trans hL1.out
  have hC2 : Hid (w2.heap[w.heap.size + 2]? = some (.cells #[.int .i64 0, .int .i64 0, .int .i64 0] 26 (0, 0))) := (hb2.block _ (block_lt hC1.out)).trans hC1.out
  have hG2 : Hid (w2.heap[g]? = some (.cells #[.int .i64 (nxN z : Nat)] t (0, 0))) := (hb2.block _ (block_lt hG1.out)).trans hG1.out
  have hs2 := hb1.trans (Spare.of (block_lt hG1.out) hb2)
  clear hP1 hL1 hC1 hG1 hb1 hb2 p0 p1 p2
  cases ht : twN z with
  | false =>
    have hp : ¬ ((0 : Int) < ((plC W H (kdN z : Nat) : Nat) : Int)) := by
      have h1 := plC_kd W H z hW.1 hH.1
      rw [ht] at h1
      simp at h1
      omega
    have HMC : Hid (mkC W H u z = clOf W u (kdN z : Nat) 0 ∧ zzN z = nxN z) := by
      refine ⟨?_, by rw [zzN, ht]; rfl⟩
      rw [mkC, plN, ht]
      rfl
    have HCL := Lib.hid (fun w => clueOf_any W H m cap (kdN z : Nat) 0 a u w hW hH h9 hu hb2 (by have := kdN_lt z; omega) (fun _ => by have := Nat.mul_pos hW.1 hH.1; omega) (fun _ => by omega) (fun _ => by omega))
    generalize plC W H (kdN z : Nat) = pc at *
    clear ht HN HPL
    generalize kdN z = kd at *
    go_upto_region 5 with fail
    refine wp_region_lit ?_
    refine wpList_load_mid rfl 31 _ rfl w.heap.size 0 rfl [.int .i64 W, .int .i64 H, .slice a m cap] _ (range3 (cell_of_block hP2.out 0) (cell_of_block hP2.out 1) (cell_of_block hP2.out 2)) Tryd.underlying31 rfl infPuz ?_
    refine wpList_load_mid rfl 65 _ rfl (w.heap.size + 1) 0 rfl (encB (preB W (W * H) u)) _ (range24 hL2.out) Tryd.underlying65 rfl (inf67.trans (by rw [encB_len])) ?_
    go_step
    go_step
    go_step
    go_step
    go_step
    go_step
    go_step
    go_step
    refine (HCL.out _).mono ?_
    rintro e w3 ⟨rfl, hb3⟩
    have hC3 := (hb3.block _ (block_lt hC2.out)).trans hC2.out
    have hG3 := (hb3.block _ (block_lt hG2.out)).trans hG2.out
    have hs3 := hs2.trans (Spare.of (block_lt hG2.out) hb3)
    have HC3 := Lib.hid hC3
    have z0 := cell_of_block hC3 0
    have z1 := cell_of_block hC3 1
    have z2 := cell_of_block hC3 2
    have zf := frozen_of_block hC3
    simp at z0 z1 z2
    clear hC3 hb3 hP2 hL2 hC2 hs2
    have HF := HMC.out.1
    have HZ := HMC.out.2
    clear HMC HCL
    generalize clOf W u (kd : Int) 0 = c at *
    unfold valC
    go_wp2_with fail
    obtain ⟨hE5, hb5⟩ := clue_stored (B := w.heap.size) HC3.out (by omega) c
    exact bodyPost_ret (results_cell_row rfl _ _ _ _ _ _ _ rfl hE5 Tryd.underlying26 rfl infClu) rfl ⟨by rw [HF]; rfl, by rw [hb5.block g hgl, hG3, HZ], fun B hB => (hs3.1 B hB).trans (hb5.mono (by omega)), fun b hb hne => (hb5.block b hb).trans (hs3.2 b hb hne)⟩
  | true =>
    have hp : (0 : Int) < ((plC W H (kdN z : Nat) : Nat) : Int) := by
      have h1 := (plC_kd W H z hW.1 hH.1).2 ht
      omega
    have hpm := plC_mod W H z ht
    have hp1 : plC W H (kdN z : Nat) ≤ 1000 := by
      have hh := Nat.mul_le_mul hW.2 hH.2
      unfold plC
      split
      · omega
      · split
        · omega
        · split <;> omega
    have HMC : Hid (mkC W H u z = clOf W u (kdN z : Nat) (plN W H z : Nat) ∧ zzN z = nxN (nxN z)) := ⟨rfl, by rw [zzN, ht]; rfl⟩
    have HNB : Hid ((kdN z = 0 ∨ kdN z = 2 → plN W H z < W * H) ∧ (kdN z = 3 → plN W H z < H) ∧ (kdN z = 4 → plN W H z < W)) := by
      have hWH : 0 < W * H := Nat.mul_pos hW.1 hH.1
      rw [Hid, plN, if_pos ht]
      refine ⟨fun h => ?_, fun h => ?_, fun h => ?_⟩
      · rw [if_neg (by omega), if_neg (by omega)]; exact Nat.mod_lt _ hWH
      · rw [if_pos h]; exact Nat.mod_lt _ hH.1
      · rw [if_neg (by omega), if_pos h]; exact Nat.mod_lt _ hW.1
    have HCL := Lib.hid (fun w => clueOf_any W H m cap (kdN z : Nat) (plN W H z : Nat) a u w hW hH h9 hu hb2 (by have := kdN_lt z; omega) (fun h => by have := HNB.out.1 (by omega); omega) (fun h => by have := HNB.out.2.1 (by omega); omega) (fun h => by have := HNB.out.2.2 (by omega); omega))
    have HN2 := Lib.hid (fun w hg => next_any g (nxN z) (plC W H (kdN z : Nat)) t w (nxN_lt z) (by omega) hp1 hg)
    rw [hpm] at HN2
    generalize plC W H (kdN z : Nat) = pc at *
    generalize plN W H z = pl at *
    clear ht HN HPL hpm hp1 HNB
    generalize kdN z = kd at *
    go_wp2_with fail
    refine (HN2.out _ hG2.out).mono ?_
    rintro e w2' ⟨rfl, rfl⟩
    have hP2' : Hid ((w2.setCell ⟨g, 0, none⟩ (.int .i64 (nxN (nxN z) : Nat))).heap[w.heap.size]? = some (.cells #[.int .i64 W, .int .i64 H, .slice a m cap] 31 (0, 0))) := (away_setC (by omega)).trans hP2.out
    have hL2' : Hid ((w2.setCell ⟨g, 0, none⟩ (.int .i64 (nxN (nxN z) : Nat))).heap[w.heap.size + 1]? = some (.cells (encB (preB W (W * H) u)).toArray 65 (0, 0))) := (away_setC (by omega)).trans hL2.out
    have hC2' : Hid ((w2.setCell ⟨g, 0, none⟩ (.int .i64 (nxN (nxN z) : Nat))).heap[w.heap.size + 2]? = some (.cells #[.int .i64 0, .int .i64 0, .int .i64 0] 26 (0, 0))) := (away_setC (by omega)).trans hC2.out
    have hG2' : Hid ((w2.setCell ⟨g, 0, none⟩ (.int .i64 (nxN (nxN z) : Nat))).heap[g]? = some (.cells #[.int .i64 (nxN (nxN z) : Nat)] t (0, 0))) := block_set hG2.out 0 _
    have hs2' := hs2.trans (Spare.set w2 0 (.int .i64 (nxN (nxN z) : Nat)))
    clear hP2 hL2 hC2 hG2 hs2
    have hP2 := hP2'
    have hL2 := hL2'
    have hC2 := hC2'
    have hG2 := hG2'
    have hs2 := hs2'
    clear hP2' hL2' hC2' hG2' hs2'
    generalize w2.setCell ⟨g, 0, none⟩ (.int .i64 (nxN (nxN z) : Nat)) = w2b at *
    go_upto_region 5 with fail
    refine wp_region_lit ?_
    refine wpList_load_mid rfl 31 _ rfl w.heap.size 0 rfl [.int .i64 W, .int .i64 H, .slice a m cap] _ (range3 (cell_of_block hP2.out 0) (cell_of_block hP2.out 1) (cell_of_block hP2.out 2)) Tryd.underlying31 rfl infPuz ?_
    refine wpList_load_mid rfl 65 _ rfl (w.heap.size + 1) 0 rfl (encB (preB W (W * H) u)) _ (range24 hL2.out) Tryd.underlying65 rfl (inf67.trans (by rw [encB_len])) ?_
    go_step
    go_step
    go_step
    go_step
    go_step
    go_step
    go_step
    go_step
    refine (HCL.out _).mono ?_
    rintro e w3 ⟨rfl, hb3⟩
    have hC3 := (hb3.block _ (block_lt hC2.out)).trans hC2.out
    have hG3 := (hb3.block _ (block_lt hG2.out)).trans hG2.out
    have hs3 := hs2.trans (Spare.of (block_lt hG2.out) hb3)
    have HC3 := Lib.hid hC3
    have z0 := cell_of_block hC3 0
    have z1 := cell_of_block hC3 1
    have z2 := cell_of_block hC3 2
    have zf := frozen_of_block hC3
    simp at z0 z1 z2
    clear hC3 hb3 hP2 hL2 hC2 hs2
    have HF := HMC.out.1
    have HZ := HMC.out.2
    clear HMC HCL
    generalize clOf W u (kd : Int) (pl : Int) = c at *
    unfold valC
    go_wp2_with fail
    obtain ⟨hE5, hb5⟩ := clue_stored (B := w.heap.size) HC3.out (by omega) c
    exact bodyPost_ret (results_cell_row rfl _ _ _ _ _ _ _ rfl hE5 Tryd.underlying26 rfl infClu) rfl ⟨by rw [HF]; rfl, by rw [hb5.block g hgl, hG3, HZ], fun B hB => (hs3.1 B hB).trans (hb5.mono (by omega)), fun b hb hne => (hb5.block b hb).trans (hs3.2 b hb hne)⟩
end Go.Proofs.YthlbplmghjaeoaaDoor
