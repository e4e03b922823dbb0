/- Puzzles by the program: mines from a cell on, the clue that a board fits. -/
import Derived.Test.YthlbplmghjaeoaaDoorAE
import Derived.Test.YthlbplmghjaeoaaDoorGKD
import Derived.Deep.DeepCutAuto
import Derived.Outline
namespace Go.Proofs.YthlbplmghjaeoaaDoor
open Go.RowKit

theorem pre_isM (W n : Nat) (u : List UInt8) (i : Nat) (hi : i < 12) : ((((preB W n u).at i).toNat : Int) == 42) = isM u i := by
  rw [is42, pre_at W n u i hi, isM]
  rw [Bool.eq_iff_iff, beq_iff_eq, decide_eq_true_eq]
set_option maxRecDepth 100000 in
set_option maxHeartbeats 1600000 in
theorem minesFrom_any (W n : Nat) (u : List UInt8) (f s c : Nat) (w : World) (hf : f ≤ 12) (hs : s ≤ 12) (hc : c ≤ 12) (hi : ∀ i, i < c → f + i * s < 12) :
    Calls Tryd.prog 98 #[.agg (encB (preB W n u)).toArray, .int .i64 f, .int .i64 s, .int .i64 c] w fun e w' => e = .returned (.int .i64 (mfN u f s c : Nat)) ∧ Below w.heap.size w w' := by
  have HX := Lib.hid (pre_isM W n u)
  have HL := Lib.hid (mfN_le u f s)
  have HS := Lib.hid (mfN_snoc u f s)
  generalize preB W n u = x at *
  go_enter Tryd.func98, Tryd.ntmps98
  go_wp2_with fail
  have hw1 : Below w.heap.size w (w.alloc (.cells (encB x).toArray 65)) := (Below.refl _ _).alloc (Nat.le_refl _) _
  have HB : Hid (∀ i : Nat, i < 24 → (w.alloc (.cells (encB x).toArray 65)).cell? ⟨w.heap.size, i, none⟩ = some (.int .u8 ((x.at i).toNat : Int))) := boxB_cell x w _
  generalize w.alloc (.cells (encB x).toArray 65) = w1 at *
  generalize (encB x).toArray = ea at *
  go_loop [9, 12] (fun q i => ∃ k : Nat, k ≤ c ∧ i = .int .i64 k ∧ q = .int .i64 (mfN u f s k : Nat)) (fun _ i => c - (intOf i).toNat)
  case atStart => exact ⟨0, Nat.zero_le _, rfl, rfl⟩
  case round =>
    obtain ⟨k, hk, rfl, rfl⟩ := hrel
    by_cases hlt : k < c
    · have hin := hi k hlt
      have hks : k * s ≤ 144 := Nat.le_trans (Nat.mul_le_mul (show k ≤ 12 by omega) hs) (by decide)
      have HIX : Hid ((k : Int) * (s : Int) = ((k * s : Nat) : Int)) := (Int.natCast_mul k s).symm
      have hcell := HB.out (f + k * s) (by omega)
      have hd := HX.out (f + k * s) hin
      have hle := HL.out k
      have HSk := Lib.hid (HS.out k)
      generalize hp : k * s = p at *
      have hm1 : wrap64 ((k : Int) * (s : Int)) = (p : Int) := by rw [HIX.out]; exact IntWalk.wrap64_in _ ⟨by omega, by omega⟩
      have hm2 : IntKind.i64.wrap ((k : Int) * (s : Int)) = (p : Int) := by rw [HIX.out]; exact IntWalk.i64_in _ ⟨by omega, by omega⟩
      clear hp
      cases d : isM u (f + p) with
      | true =>
        rw [d] at hd HSk
        go_wp2_with fail
        go_round
        case rel => exact ⟨k + 1, by omega, by go_num, by rw [HSk.out, if_pos rfl]; go_num⟩
        case measure => simp [intOf]; omega
      | false =>
        rw [d] at hd HSk
        go_wp2_with fail
        go_round
        case rel => exact ⟨k + 1, by omega, by go_num, by rw [HSk.out, if_neg (by decide)]; rfl⟩
        case measure => simp [intOf]; omega
    · obtain rfl : k = c := by omega
      go_wp2_with fail
      go_ret
      exact ⟨rfl, hw1⟩
set_option maxRecDepth 100000 in
set_option maxHeartbeats 1600000 in
theorem clueOf_cell (W H m cap : Nat) (A : Nat) (a : Option Addr) (u : List UInt8) (w : World) (_hW : 1 ≤ W ∧ W ≤ 8) (_hH : 1 ≤ H ∧ H ≤ 8) (h9 : W * H ≤ 9) (hA : A < W * H) (hu : u.length = W * H) (_hb2 : Brd2 u) :
    Calls Tryd.prog 70 #[.agg #[.int .i64 W, .int .i64 H, .slice a m cap], .agg (encB (preB W (W * H) u)).toArray, .int .i64 0, .int .i64 A] w fun e w' => e = .returned (valC (clOf W u 0 A)) ∧ Below w.heap.size w w' := by
  have HV : Hid (clOf W u 0 A = ⟨0, A, (mfN u A 1 1 : Nat)⟩) := by
    simp only [Hid, clOf, vlC]
    rw [if_neg (by decide), if_neg (by decide), if_neg (by decide), hu, cnt_cell (by omega) hA]
  have HMF := Lib.hid (fun w => minesFrom_any W (W * H) u A 1 1 w (by omega) (by decide) (by decide) (fun i hi => by omega))
  have hb : Below w.heap.size w (((w.alloc (.cells #[.int .i64 W, .int .i64 H, .slice a m cap] 31)).alloc (.cells (encB (preB W (W * H) u)).toArray 65)).alloc (.cells #[.int .i64 0, .int .i64 0, .int .i64 0] 26)) := (((Below.refl _ _).alloc (Nat.le_refl _) _).alloc (by simp) _).alloc (by simp; omega) _
  obtain ⟨hG, hX, hE⟩ := blk3 w (.cells #[.int .i64 W, .int .i64 H, .slice a m cap] 31) (.cells (encB (preB W (W * H) u)).toArray 65) (.cells #[.int .i64 0, .int .i64 0, .int .i64 0] 26)
  generalize preB W (W * H) u = x at *
  clear hu
  go_enter Tryd.func70, Tryd.ntmps70
  go_upto_region 3 with fail
  generalize ((w.alloc (.cells #[.int .i64 W, .int .i64 H, .slice a m cap] 31)).alloc (.cells (encB x).toArray 65)).alloc (.cells #[.int .i64 0, .int .i64 0, .int .i64 0] 26) = w1 at *
  have hRX := Lib.hid (range24 hX)
  have HE := Lib.hid hE
  clear hG hX hE
  go_wp2_with (refine wpList_load_mid rfl 65 _ rfl (w.heap.size + 1) 0 rfl (encB x) _ hRX.out Tryd.underlying65 rfl (inf67.trans (by rw [encB_len])) ?_)
  refine (HMF.out w1).mono ?_
  rintro e w2 ⟨rfl, hb2⟩
  have hE2 := (hb2.block _ (block_lt HE.out)).trans HE.out
  have hB2 := hb.trans (hb2.mono hb.size)
  have z0 := cell_of_block hE2 0
  have z1 := cell_of_block hE2 1
  have z2 := cell_of_block hE2 2
  have zf := frozen_of_block hE2
  simp at z0 z1 z2
  have HE2 := Lib.hid hE2
  clear hb hb2 HE hE2
  go_wp2_with fail
  obtain ⟨hE5, hb5⟩ := clue_stored (B := w.heap.size) HE2.out (by omega) ⟨0, A, (mfN u A 1 1 : Nat)⟩
  exact bodyPost_ret (results_cell_row rfl _ _ _ _ _ _ _ rfl hE5 Tryd.underlying26 rfl infClu) rfl ⟨by rw [HV.out]; rfl, hB2.trans hb5⟩
set_option maxRecDepth 100000 in
set_option maxHeartbeats 1600000 in
theorem clueOf_mines (W H m cap : Nat) (A : Int) (a : Option Addr) (u : List UInt8) (w : World) (_hW : 1 ≤ W ∧ W ≤ 8) (_hH : 1 ≤ H ∧ H ≤ 8) (h9 : W * H ≤ 9) (hu : u.length = W * H) (_hb2 : Brd2 u) :
    Calls Tryd.prog 70 #[.agg #[.int .i64 W, .int .i64 H, .slice a m cap], .agg (encB (preB W (W * H) u)).toArray, .int .i64 1, .int .i64 A] w fun e w' => e = .returned (valC (clOf W u 1 A)) ∧ Below w.heap.size w w' := by
  have HV : Hid (clOf W u 1 A = ⟨1, ((List.range (W * H)).countP (isM u) : Nat), 0⟩) := by
    simp only [Hid, clOf, vlC]
    rw [if_pos (by decide), if_neg (by decide), if_neg (by decide), hu, cnt_all]
  have HMF := Lib.hid (fun w => lbMines_any (preB W (W * H) u) w)
  rw [pre_mnC W (W * H) u hu (by omega)] at HMF
  have hb : Below w.heap.size w (((w.alloc (.cells #[.int .i64 W, .int .i64 H, .slice a m cap] 31)).alloc (.cells (encB (preB W (W * H) u)).toArray 65)).alloc (.cells #[.int .i64 0, .int .i64 0, .int .i64 0] 26)) := (((Below.refl _ _).alloc (Nat.le_refl _) _).alloc (by simp) _).alloc (by simp; omega) _
  obtain ⟨hG, hX, hE⟩ := blk3 w (.cells #[.int .i64 W, .int .i64 H, .slice a m cap] 31) (.cells (encB (preB W (W * H) u)).toArray 65) (.cells #[.int .i64 0, .int .i64 0, .int .i64 0] 26)
  generalize preB W (W * H) u = x at *
  clear hu
  go_enter Tryd.func70, Tryd.ntmps70
  go_upto_region 5 with fail
  generalize ((w.alloc (.cells #[.int .i64 W, .int .i64 H, .slice a m cap] 31)).alloc (.cells (encB x).toArray 65)).alloc (.cells #[.int .i64 0, .int .i64 0, .int .i64 0] 26) = w1 at *
  have hRX := Lib.hid (range24 hX)
  have HE := Lib.hid hE
  clear hG hX hE
  go_wp2_with (refine wpList_load_mid rfl 65 _ rfl (w.heap.size + 1) 0 rfl (encB x) _ hRX.out Tryd.underlying65 rfl (inf67.trans (by rw [encB_len])) ?_)
  refine (HMF.out w1).mono ?_
  rintro e w2 ⟨rfl, hb2⟩
  have hE2 := (hb2.block _ (block_lt HE.out)).trans HE.out
  have hB2 := hb.trans (hb2.mono hb.size)
  have z0 := cell_of_block hE2 0
  have z1 := cell_of_block hE2 1
  have z2 := cell_of_block hE2 2
  have zf := frozen_of_block hE2
  simp at z0 z1 z2
  have HE2 := Lib.hid hE2
  clear hb hb2 HE hE2
  go_wp2_with fail
  obtain ⟨hE5, hb5⟩ := clue_stored (B := w.heap.size) HE2.out (by omega) ⟨1, ((List.range (W * H)).countP (isM u) : Nat), 0⟩
  exact bodyPost_ret (results_cell_row rfl _ _ _ _ _ _ _ rfl hE5 Tryd.underlying26 rfl infClu) rfl ⟨by rw [HV.out]; rfl, hB2.trans hb5⟩
set_option maxRecDepth 100000 in
set_option maxHeartbeats 1600000 in
theorem clueOf_number (W H m cap : Nat) (A : Nat) (a : Option Addr) (u : List UInt8) (w : World) (hW : 1 ≤ W ∧ W ≤ 8) (hH : 1 ≤ H ∧ H ≤ 8) (h9 : W * H ≤ 9) (hA : A < W * H) (hu : u.length = W * H) (_hb2 : Brd2 u) :
    Calls Tryd.prog 70 #[.agg #[.int .i64 W, .int .i64 H, .slice a m cap], .agg (encB (preB W (W * H) u)).toArray, .int .i64 2, .int .i64 A] w fun e w' => e = .returned (valC (clOf W u 2 A)) ∧ Below w.heap.size w w' := by
  have HV : Hid (clOf W u 2 A = ⟨2, A, (numM u W A : Nat)⟩) := by
    simp only [Hid, clOf, vlC]
    rw [if_neg (by decide)]; simp
  have HNA : Hid ((((preB W (W * H) u).at (12 + A)).toNat : Int) = ((numM u W A : Nat) : Int)) := by rw [Hid, pre_numM W H hW.2 hH.2 (by omega) u hu A hA]
  have hnl := numM_le u W A
  have hwn : wrap64 ((numM u W A : Nat) : Int) = ((numM u W A : Nat) : Int) := IntWalk.wrap64_in _ ⟨by omega, by omega⟩
  have hA12 : A < 12 := by omega
  have hb : Below w.heap.size w (((w.alloc (.cells #[.int .i64 W, .int .i64 H, .slice a m cap] 31)).alloc (.cells (encB (preB W (W * H) u)).toArray 65)).alloc (.cells #[.int .i64 0, .int .i64 0, .int .i64 0] 26)) := (((Below.refl _ _).alloc (Nat.le_refl _) _).alloc (by simp) _).alloc (by simp; omega) _
  obtain ⟨hG, hX, hE⟩ := blk3 w (.cells #[.int .i64 W, .int .i64 H, .slice a m cap] 31) (.cells (encB (preB W (W * H) u)).toArray 65) (.cells #[.int .i64 0, .int .i64 0, .int .i64 0] 26)
  generalize preB W (W * H) u = x at *
  clear hu
  go_enter Tryd.func70, Tryd.ntmps70
  go_upto_region 7 with fail
  generalize ((w.alloc (.cells #[.int .i64 W, .int .i64 H, .slice a m cap] 31)).alloc (.cells (encB x).toArray 65)).alloc (.cells #[.int .i64 0, .int .i64 0, .int .i64 0] 26) = w1 at *
  have hRX := Lib.hid (range24 hX)
  have HE := Lib.hid hE
  have hcA := (cell_of_block hX (12 + A)).trans ((List.getElem?_toArray ..).trans (encB_get x (12 + A) (by omega)))
  rw [HNA.out] at hcA
  have z0 := cell_of_block hE 0
  have z1 := cell_of_block hE 1
  have z2 := cell_of_block hE 2
  have zf := frozen_of_block hE
  simp at z0 z1 z2
  clear hG hX hE
  go_wp2_with fail
  obtain ⟨hE5, hb5⟩ := clue_stored (B := w.heap.size) HE.out (by omega) ⟨2, A, (numM u W A : Nat)⟩
  exact bodyPost_ret (results_cell_row rfl _ _ _ _ _ _ _ rfl hE5 Tryd.underlying26 rfl infClu) rfl ⟨by rw [HV.out]; rfl, hb.trans hb5⟩
set_option maxRecDepth 100000 in
set_option maxHeartbeats 1600000 in
theorem clueOf_row (W H m cap : Nat) (A : Nat) (a : Option Addr) (u : List UInt8) (w : World) (hW : 1 ≤ W ∧ W ≤ 8) (hH : 1 ≤ H ∧ H ≤ 8) (h9 : W * H ≤ 9) (hA : A < H) (hu : u.length = W * H) (_hb2 : Brd2 u) :
    Calls Tryd.prog 70 #[.agg #[.int .i64 W, .int .i64 H, .slice a m cap], .agg (encB (preB W (W * H) u)).toArray, .int .i64 3, .int .i64 A] w fun e w' => e = .returned (valC (clOf W u 3 A)) ∧ Below w.heap.size w w' := by
  have HV : Hid (clOf W u 3 A = ⟨3, A, (mfN u (A * W) 1 W : Nat)⟩) := by
    simp only [Hid, clOf, vlC]
    rw [if_neg (by decide), if_neg (by decide), if_neg (by decide), hu, cnt_row hW.2 hH.2 h9 hA]
  have hAW : A * W + W ≤ W * H := by
    have := Nat.mul_le_mul_right W (show A + 1 ≤ H from hA)
    rw [Nat.succ_mul, Nat.mul_comm H W] at this
    exact this
  have HMF := Lib.hid (fun w => minesFrom_any W (W * H) u (A * W) 1 W w (by omega) (by decide) (by omega) (fun i hi => by omega))
  have hm1 : wrap64 ((A : Int) * (W : Int)) = ((A * W : Nat) : Int) := by rw [← Int.natCast_mul]; exact IntWalk.wrap64_in _ ⟨by omega, by omega⟩
  have hm2 : IntKind.i64.wrap ((A : Int) * (W : Int)) = ((A * W : Nat) : Int) := by rw [← Int.natCast_mul]; exact IntWalk.i64_in _ ⟨by omega, by omega⟩
  have hb : Below w.heap.size w (((w.alloc (.cells #[.int .i64 W, .int .i64 H, .slice a m cap] 31)).alloc (.cells (encB (preB W (W * H) u)).toArray 65)).alloc (.cells #[.int .i64 0, .int .i64 0, .int .i64 0] 26)) := (((Below.refl _ _).alloc (Nat.le_refl _) _).alloc (by simp) _).alloc (by simp; omega) _
  obtain ⟨hG, hX, hE⟩ := blk3 w (.cells #[.int .i64 W, .int .i64 H, .slice a m cap] 31) (.cells (encB (preB W (W * H) u)).toArray 65) (.cells #[.int .i64 0, .int .i64 0, .int .i64 0] 26)
  generalize preB W (W * H) u = x at *
  clear hu
  go_enter Tryd.func70, Tryd.ntmps70
  go_upto_region 9 with fail
  generalize ((w.alloc (.cells #[.int .i64 W, .int .i64 H, .slice a m cap] 31)).alloc (.cells (encB x).toArray 65)).alloc (.cells #[.int .i64 0, .int .i64 0, .int .i64 0] 26) = w1 at *
  have hRX := Lib.hid (range24 hX)
  have HE := Lib.hid hE
  have f0 := cell_of_block hG 0
  have f1 := cell_of_block hG 1
  simp at f0 f1
  clear hG hX hE
  go_wp2_with (refine wpList_load_mid rfl 65 _ rfl (w.heap.size + 1) 0 rfl (encB x) _ hRX.out Tryd.underlying65 rfl (inf67.trans (by rw [encB_len])) ?_)
  refine (HMF.out w1).mono ?_
  rintro e w2 ⟨rfl, hb2⟩
  have hE2 := (hb2.block _ (block_lt HE.out)).trans HE.out
  have hB2 := hb.trans (hb2.mono hb.size)
  have z0 := cell_of_block hE2 0
  have z1 := cell_of_block hE2 1
  have z2 := cell_of_block hE2 2
  have zf := frozen_of_block hE2
  simp at z0 z1 z2
  have HE2 := Lib.hid hE2
  clear hb hb2 HE hE2
  go_wp2_with fail
  obtain ⟨hE5, hb5⟩ := clue_stored (B := w.heap.size) HE2.out (by omega) ⟨3, A, (mfN u (A * W) 1 W : Nat)⟩
  exact bodyPost_ret (results_cell_row rfl _ _ _ _ _ _ _ rfl hE5 Tryd.underlying26 rfl infClu) rfl ⟨by rw [HV.out]; rfl, hB2.trans hb5⟩
set_option maxRecDepth 100000 in
set_option maxHeartbeats 1600000 in
theorem clueOf_column (W H m cap : Nat) (A : Nat) (a : Option Addr) (u : List UInt8) (w : World) (hW : 1 ≤ W ∧ W ≤ 8) (hH : 1 ≤ H ∧ H ≤ 8) (h9 : W * H ≤ 9) (hA : A < W) (hu : u.length = W * H) (_hb2 : Brd2 u) :
    Calls Tryd.prog 70 #[.agg #[.int .i64 W, .int .i64 H, .slice a m cap], .agg (encB (preB W (W * H) u)).toArray, .int .i64 4, .int .i64 A] w fun e w' => e = .returned (valC (clOf W u 4 A)) ∧ Below w.heap.size w w' := by
  have HV : Hid (clOf W u 4 A = ⟨4, A, (mfN u A W H : Nat)⟩) := by
    simp only [Hid, clOf, vlC]
    rw [if_neg (by decide), if_neg (by decide), if_neg (by decide), hu, cnt_col hW.2 hH.2 h9 hA]
  have hAI : ∀ i, i < H → A + i * W < 12 := fun i hi => by
    have := Nat.mul_le_mul_right W (show i + 1 ≤ H from hi)
    rw [Nat.succ_mul, Nat.mul_comm H W] at this
    omega
  have HMF := Lib.hid (fun w => minesFrom_any W (W * H) u A W H w (by omega) (by omega) (by omega) hAI)
  clear hAI
  have hb : Below w.heap.size w (((w.alloc (.cells #[.int .i64 W, .int .i64 H, .slice a m cap] 31)).alloc (.cells (encB (preB W (W * H) u)).toArray 65)).alloc (.cells #[.int .i64 0, .int .i64 0, .int .i64 0] 26)) := (((Below.refl _ _).alloc (Nat.le_refl _) _).alloc (by simp) _).alloc (by simp; omega) _
  obtain ⟨hG, hX, hE⟩ := blk3 w (.cells #[.int .i64 W, .int .i64 H, .slice a m cap] 31) (.cells (encB (preB W (W * H) u)).toArray 65) (.cells #[.int .i64 0, .int .i64 0, .int .i64 0] 26)
  generalize preB W (W * H) u = x at *
  clear hu
  go_enter Tryd.func70, Tryd.ntmps70
  go_upto_region 11 with fail
  generalize ((w.alloc (.cells #[.int .i64 W, .int .i64 H, .slice a m cap] 31)).alloc (.cells (encB x).toArray 65)).alloc (.cells #[.int .i64 0, .int .i64 0, .int .i64 0] 26) = w1 at *
  have hRX := Lib.hid (range24 hX)
  have HE := Lib.hid hE
  have f0 := cell_of_block hG 0
  have f1 := cell_of_block hG 1
  simp at f0 f1
  clear hG hX hE
  go_wp2_with (refine wpList_load_mid rfl 65 _ rfl (w.heap.size + 1) 0 rfl (encB x) _ hRX.out Tryd.underlying65 rfl (inf67.trans (by rw [encB_len])) ?_)
  refine (HMF.out w1).mono ?_
  rintro e w2 ⟨rfl, hb2⟩
  have hE2 := (hb2.block _ (block_lt HE.out)).trans HE.out
  have hB2 := hb.trans (hb2.mono hb.size)
  have z0 := cell_of_block hE2 0
  have z1 := cell_of_block hE2 1
  have z2 := cell_of_block hE2 2
  have zf := frozen_of_block hE2
  simp at z0 z1 z2
  have HE2 := Lib.hid hE2
  clear hb hb2 HE hE2
  go_wp2_with fail
  obtain ⟨hE5, hb5⟩ := clue_stored (B := w.heap.size) HE2.out (by omega) ⟨4, A, (mfN u A W H : Nat)⟩
  exact bodyPost_ret (results_cell_row rfl _ _ _ _ _ _ _ rfl hE5 Tryd.underlying26 rfl infClu) rfl ⟨by rw [HV.out]; rfl, hB2.trans hb5⟩
set_option maxRecDepth 100000 in
set_option maxHeartbeats 1600000 in
theorem clueOf_sum (W H m cap : Nat) (A : Int) (a : Option Addr) (u : List UInt8) (w : World) (hW : 1 ≤ W ∧ W ≤ 8) (hH : 1 ≤ H ∧ H ≤ 8) (h9 : W * H ≤ 9) (hu : u.length = W * H) (hb2 : Brd2 u) :
    Calls Tryd.prog 70 #[.agg #[.int .i64 W, .int .i64 H, .slice a m cap], .agg (encB (preB W (W * H) u)).toArray, .int .i64 5, .int .i64 A] w fun e w' => e = .returned (valC (clOf W u 5 A)) ∧ Below w.heap.size w w' := by
  have HV : Hid (clOf W u 5 A = ⟨5, (sumGo u W 0 u.length : Nat), 0⟩) := by
    simp only [Hid, clOf, vlC]
    rw [if_pos (by decide), if_neg (by decide)]; simp
  have HMF := Lib.hid (fun w => lbSum_any (preB W (W * H) u) w)
  rw [pre_sums W H hW.2 hH.2 (by omega) u hu hb2] at HMF
  have hb : Below w.heap.size w (((w.alloc (.cells #[.int .i64 W, .int .i64 H, .slice a m cap] 31)).alloc (.cells (encB (preB W (W * H) u)).toArray 65)).alloc (.cells #[.int .i64 0, .int .i64 0, .int .i64 0] 26)) := (((Below.refl _ _).alloc (Nat.le_refl _) _).alloc (by simp) _).alloc (by simp; omega) _
  obtain ⟨hG, hX, hE⟩ := blk3 w (.cells #[.int .i64 W, .int .i64 H, .slice a m cap] 31) (.cells (encB (preB W (W * H) u)).toArray 65) (.cells #[.int .i64 0, .int .i64 0, .int .i64 0] 26)
  generalize preB W (W * H) u = x at *
  clear hu
  go_enter Tryd.func70, Tryd.ntmps70
  go_upto_region 12 with fail
  generalize ((w.alloc (.cells #[.int .i64 W, .int .i64 H, .slice a m cap] 31)).alloc (.cells (encB x).toArray 65)).alloc (.cells #[.int .i64 0, .int .i64 0, .int .i64 0] 26) = w1 at *
  have hRX := Lib.hid (range24 hX)
  have HE := Lib.hid hE
  clear hG hX hE
  go_wp2_with (refine wpList_load_mid rfl 65 _ rfl (w.heap.size + 1) 0 rfl (encB x) _ hRX.out Tryd.underlying65 rfl (inf67.trans (by rw [encB_len])) ?_)
  refine (HMF.out w1).mono ?_
  rintro e w2 ⟨rfl, hb2⟩
  have hE2 := (hb2.block _ (block_lt HE.out)).trans HE.out
  have hB2 := hb.trans (hb2.mono hb.size)
  have z0 := cell_of_block hE2 0
  have z1 := cell_of_block hE2 1
  have z2 := cell_of_block hE2 2
  have zf := frozen_of_block hE2
  simp at z0 z1 z2
  have HE2 := Lib.hid hE2
  clear hb hb2 HE hE2
  go_wp2_with fail
  obtain ⟨hE5, hb5⟩ := clue_stored (B := w.heap.size) HE2.out (by omega) ⟨5, (sumGo u W 0 u.length : Nat), 0⟩
  exact bodyPost_ret (results_cell_row rfl _ _ _ _ _ _ _ rfl hE5 Tryd.underlying26 rfl infClu) rfl ⟨by rw [HV.out]; rfl, hB2.trans hb5⟩
theorem clueOf_any (W H m cap : Nat) (k A : Int) (a : Option Addr) (u : List UInt8) (w : World) (hW : 1 ≤ W ∧ W ≤ 8) (hH : 1 ≤ H ∧ H ≤ 8) (h9 : W * H ≤ 9) (hu : u.length = W * H) (hb2 : Brd2 u)
    (hk : 0 ≤ k ∧ k ≤ 5) (h02 : k = 0 ∨ k = 2 → 0 ≤ A ∧ A < (W * H : Nat)) (h3 : k = 3 → 0 ≤ A ∧ A < H) (h4 : k = 4 → 0 ≤ A ∧ A < W) :
    Calls Tryd.prog 70 #[.agg #[.int .i64 W, .int .i64 H, .slice a m cap], .agg (encB (preB W (W * H) u)).toArray, .int .i64 k, .int .i64 A] w fun e w' => e = .returned (valC (clOf W u k A)) ∧ Below w.heap.size w w' := by
  rcases (by omega : k = 0 ∨ k = 1 ∨ k = 2 ∨ k = 3 ∨ k = 4 ∨ k = 5) with rfl | rfl | rfl | rfl | rfl | rfl
  · obtain ⟨h1, h2⟩ := h02 (.inl rfl)
    obtain ⟨B, rfl⟩ : ∃ B : Nat, A = B := ⟨A.toNat, by omega⟩
    exact clueOf_cell W H m cap B a u w hW hH h9 (by omega) hu hb2
  · exact clueOf_mines W H m cap A a u w hW hH h9 hu hb2
  · obtain ⟨h1, h2⟩ := h02 (.inr rfl)
    obtain ⟨B, rfl⟩ : ∃ B : Nat, A = B := ⟨A.toNat, by omega⟩
    exact clueOf_number W H m cap B a u w hW hH h9 (by omega) hu hb2
  · obtain ⟨h1, h2⟩ := h3 rfl
    obtain ⟨B, rfl⟩ : ∃ B : Nat, A = B := ⟨A.toNat, by omega⟩
    exact clueOf_row W H m cap B a u w hW hH h9 (by omega) hu hb2
  · obtain ⟨h1, h2⟩ := h4 rfl
    obtain ⟨B, rfl⟩ : ∃ B : Nat, A = B := ⟨A.toNat, by omega⟩
    exact clueOf_column W H m cap B a u w hW hH h9 (by omega) hu hb2
  · exact clueOf_sum W H m cap A a u w hW hH h9 hu hb2
end Go.Proofs.YthlbplmghjaeoaaDoor
