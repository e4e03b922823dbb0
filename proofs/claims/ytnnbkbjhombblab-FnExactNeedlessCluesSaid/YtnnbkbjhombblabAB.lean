/- Puzzles by the program: a clue less; DropClue by both sides. -/
import Derived.Test.YtnnbkbjhombblabA7
import Derived.Test.YtnnbkbjhombblabA8
import Derived.Test.YtnnbkbjhombblabAA
import Derived.Laws.ResultCell
import Derived.Outline
namespace Go.Proofs.Ytnnbkbjhombblab
open Go.RowKit

set_option maxRecDepth 100000 in
set_option maxHeartbeats 1600000 in
theorem without_any (W H : Int) (B n cap k : Nat) (a : Option Addr) (cs : List Clu) (w : World) (hR : RowC w B (.slice a n cap) cs) (hk : k < cs.length) (hB : B ≤ w.heap.size) (hl : cs.length ≤ 1048576) :
    Calls Try.prog 39 #[.agg #[.int .i64 W, .int .i64 H, .slice a n cap], .int .i64 k] w fun e w' => ∃ v', e = .returned (.agg #[.int .i64 W, .int .i64 H, v']) ∧ RowC w' B v' (cs.eraseIdx k) ∧ Below w.heap.size w w' := by
  have hcap : n ≤ cap ∧ cap ≤ 9223372036854775807 := by
    obtain ⟨a1, cap1, hv, h1, h2, _⟩ := hR
    obtain ⟨rfl, rfl, rfl⟩ : a = a1 ∧ n = cs.length ∧ cap = cap1 := by simpa using hv
    exact ⟨h1, h2⟩
  obtain ⟨a1, cap1, hv⟩ := hR.shape
  obtain ⟨rfl, rfl, rfl⟩ : a = a1 ∧ n = cs.length ∧ cap = cap1 := by simpa using hv
  obtain ⟨hc1, hc2⟩ := hcap
  have hat := hR.at
  obtain ⟨g, off, rfl, hgl, _⟩ := clu_at hat k hk
  have hat2 : At w (some ⟨g, off + (k + 1) * 3, none⟩) (flatC (cs.drop (k + 1))) := by
    have e : flatC cs = flatC (cs.take (k + 1)) ++ flatC (cs.drop (k + 1)) ++ [] := by rw [List.append_nil, ← flatC_append, List.take_append_drop]
    rw [e] at hat
    have := at_sub hat
    rwa [flatC_length, List.length_take, Nat.min_eq_left (by omega)] at this
  have HL2 := Lib.hid (show (cs.drop (k + 1)).length = cs.length - (k + 1) by rw [List.length_drop])
  have HE := Lib.hid (show cs.take k ++ cs.drop (k + 1) = cs.eraseIdx k by rw [List.eraseIdx_eq_take_drop_succ])
  have HP := Lib.hid (fun w hR => part_any W H B cs.length cap 0 k (some ⟨g, off, none⟩) cs w hR (Nat.zero_le _) (by omega))
  have HW := Lib.hid (fun n' cap' a' b m c w' (h : RowC w' B (.slice a' n' cap') (cs.take k)) hm h2 hB => with_any W H B n' cap' a' (cs.take k) (cs.drop (k + 1)) b m c w' h hm h2 hB (by simp; omega))
  have hb : Below w.heap.size w ((w.alloc (.cells #[.int .i64 W, .int .i64 H, .slice (some ⟨g, off, none⟩) cs.length cap] 30)).alloc (.cells #[.int .i64 0, .int .i64 0, .slice none 0 0] 30)) := ((Below.refl _ _).alloc (Nat.le_refl _) _).alloc (by simp) _
  have hG := blk0 w (.cells #[.int .i64 W, .int .i64 H, .slice (some ⟨g, off, none⟩) cs.length cap] 30) (.cells #[.int .i64 0, .int .i64 0, .slice none 0 0] 30)
  have hE := blk1 w (.cells #[.int .i64 W, .int .i64 H, .slice (some ⟨g, off, none⟩) cs.length cap] 30) (.cells #[.int .i64 0, .int .i64 0, .slice none 0 0] 30)
  have wr1 : IntKind.i64.wrap ((k : Int) + 1) = (k : Int) + 1 := IntWalk.i64_in _ ⟨by omega, by omega⟩
  have iz : (0 : Int) ≤ (k : Int) + 1 := by omega
  have iy : (k : Int) + 1 ≤ (cs.length : Int) := by omega
  go_enter Try.func39, Try.ntmps39
  go_upto_region 1 with fail
  have hR1 := hR.below hb
  have hA1 := hat2.later rfl hb
  generalize (w.alloc (.cells #[.int .i64 W, .int .i64 H, .slice (some ⟨g, off, none⟩) cs.length cap] 30)).alloc (.cells #[.int .i64 0, .int .i64 0, .slice none 0 0] 30) = w1 at *
  have f0 := cell_of_block hG 0
  have f1 := cell_of_block hG 1
  have f2 := cell_of_block hG 2
  simp at f0 f1 f2
  have HG := Lib.hid hG
  have HEE := Lib.hid hE
  have HR1 : Hid (RowC w1.drew B (.slice (some ⟨g, off, none⟩) cs.length cap) cs) := hR1
  have HA1 := Lib.hid hA1
  have HB1 := Lib.hid hb
  clear hG hE hR1 hA1 hb hR hat hat2
  by_cases hz : cap = k + 1
  · subst hz
    have HA3 : Hid (At w1 (some ⟨g, off, none⟩) (flatC (cs.drop (k + 1)))) := by
      rw [List.drop_eq_nil_of_le (by omega)]
      exact fun j hj => by simp [flatC] at hj
    go_region_law (first
      | (go_simp; go_at_call 53; refine (HP.out _ HR1.out).mono ?_; rintro e w2 ⟨a2, rfl, hb2, _, hR2⟩; have HR2 := Lib.hid (hR2 (by simp)); clear hR2;
         have HG2 := Lib.hid ((hb2.block _ (block_lt HG.out)).trans HG.out); have y0 := cell_of_block HG2.out 0; have y1 := cell_of_block HG2.out 1; have y2 := cell_of_block HG2.out 2; simp at y0 y1 y2)
      | (go_simp; go_at_call 45; refine (HW.out _ _ _ (some ⟨g, off, none⟩) _ _ w2 HR2.out (by rw [HL2.out] <;> omega) (HA3.out.later rfl (ofDrewC hb2)) (by have := HB1.out.size; have := (ofDrewC hb2).size; omega)).mono ?_; rintro e w3 ⟨v3, rfl, hR3, hb3⟩;
         have HE3 := Lib.hid ((((ofDrewC hb2).trans (hb3.mono (ofDrewC hb2).size)).block _ (block_lt HEE.out)).trans HEE.out); obtain ⟨a3, n3, c3, hv3⟩ := hR3.form; subst hv3; have t0 := cell_of_block HE3.out 0; have t1 := cell_of_block HE3.out 1; have t2 := cell_of_block HE3.out 2; have tf := frozen_of_block HE3.out; simp at t0 t1 t2))
    all_goals
      rw [HE.out] at hR3
      obtain ⟨hE5, hb5⟩ := puzzle_stored (B := w.heap.size) HE3.out (by omega) (.int .i64 W) (.int .i64 H) (.slice a3 n3 c3)
      have hb9 := (HB1.out.trans (((ofDrewC hb2).trans (hb3.mono (ofDrewC hb2).size)).mono HB1.out.size)).trans hb5
      go_wp2_with fail
      exact bodyPost_ret (results_cell_row rfl _ _ _ _ _ _ _ rfl hE5 Try.underlying30 rfl infPuz) rfl ⟨_, rfl, hR3.put3 HE3.out, hb9⟩
  · go_region_law (first
      | (go_simp; go_at_call 53; refine (HP.out _ HR1.out).mono ?_; rintro e w2 ⟨a2, rfl, hb2, _, hR2⟩; have HR2 := Lib.hid (hR2 (by simp)); clear hR2;
         have HG2 := Lib.hid ((hb2.block _ (block_lt HG.out)).trans HG.out); have y0 := cell_of_block HG2.out 0; have y1 := cell_of_block HG2.out 1; have y2 := cell_of_block HG2.out 2; simp at y0 y1 y2)
      | (go_simp; go_at_call 45; refine (HW.out _ _ _ (some ⟨g, off + (k + 1) * 3, none⟩) _ _ w2 HR2.out (by rw [HL2.out] <;> omega) (HA1.out.later rfl (ofDrewC hb2)) (by have := HB1.out.size; have := (ofDrewC hb2).size; omega)).mono ?_; rintro e w3 ⟨v3, rfl, hR3, hb3⟩;
         have HE3 := Lib.hid ((((ofDrewC hb2).trans (hb3.mono (ofDrewC hb2).size)).block _ (block_lt HEE.out)).trans HEE.out); obtain ⟨a3, n3, c3, hv3⟩ := hR3.form; subst hv3; have t0 := cell_of_block HE3.out 0; have t1 := cell_of_block HE3.out 1; have t2 := cell_of_block HE3.out 2; have tf := frozen_of_block HE3.out; simp at t0 t1 t2))
    all_goals
      rw [HE.out] at hR3
      obtain ⟨hE5, hb5⟩ := puzzle_stored (B := w.heap.size) HE3.out (by omega) (.int .i64 W) (.int .i64 H) (.slice a3 n3 c3)
      have hb9 := (HB1.out.trans (((ofDrewC hb2).trans (hb3.mono (ofDrewC hb2).size)).mono HB1.out.size)).trans hb5
      go_wp2_with fail
      exact bodyPost_ret (results_cell_row rfl _ _ _ _ _ _ _ rfl hE5 Try.underlying30 rfl infPuz) rfl ⟨_, rfl, hR3.put3 HE3.out, hb9⟩

/-- Two results: a variable's cells, and a value. -/
theorem res_pair {P : Program} {fn : Func} {p u : Tmp} {ty : TypeId} (h : fn.results = #[.cell p ty, .tmp u]) (tmps : Array Value) (w : World) (g : Nat) (t : TypeId) (cs : Array Value) (fr : Nat × Nat) (d : TypeDesc) (b : Value)
    (hp : tmps.getD p undef = .pointer (some ⟨g, 0, none⟩)) (hg : w.heap[g]? = some (.cells cs t fr)) (hu : P.underlying ty = some d) (hd : (match d with | .struct _ | .array _ _ => true | _ => false) = true) (hi : (P.info? ty).map (·.size) = some cs.size)
    (hb : tmps.getD u undef = b) : (results fn tmps).run P w = .ok (.tuple #[.agg cs, b]) w := by
  rw [results_cell_tmp h, hp, hb]
  simp [asAddr, Result.andThen, run_loadVar_row w g t ty cs fr d hg hu hd hi]
/-- Is there a puzzle, and a clue with an index? -/
def dropB (x y : Int) (cs : List Clu) (k : Int) : Bool := pzB x y cs && inB k 0 ((cs.length : Int) - 1)
set_option maxRecDepth 100000 in
set_option maxHeartbeats 1600000 in
theorem iDropClue_no (x y k : Int) (a : Option Addr) (n cap : Nat) (cs : List Clu) (w : World) (hn : n = cs.length) (hat : At w a (flatC cs)) (hD : dropB x y cs k = false) :
    Calls Try.prog 20 #[.agg #[.int .i64 x, .int .i64 y, .slice a n cap], .int .i64 k] w fun e w' => e = .returned (.tuple #[.agg #[.int .i64 0, .int .i64 0, .slice none 0 0], .bool false]) ∧ Below w.heap.size w w' := by
  subst hn
  have hb : Below w.heap.size w ((w.alloc (.cells #[.int .i64 x, .int .i64 y, .slice a cs.length cap] 30)).alloc (.cells #[.int .i64 0, .int .i64 0, .slice none 0 0] 30)) := ((Below.refl _ _).alloc (Nat.le_refl _) _).alloc (by simp) _
  have hE := blk1 w (.cells #[.int .i64 x, .int .i64 y, .slice a cs.length cap] 30) (.cells #[.int .i64 0, .int .i64 0, .slice none 0 0] 30)
  have hat1 := hat.later rfl hb
  obtain ⟨X, Y, v, bb, nc, hr, hk⟩ : ∃ (X Y : Int) (v : World → Value → Prop) (bb : Bool) (nc : Nat), (∀ w, At w a (flatC cs) → Calls Try.prog 32 #[.agg #[.int .i64 x, .int .i64 y, .slice a cs.length cap]] w fun e w' => ∃ a1 c1, e = .returned (.tuple #[.agg #[.int .i64 X, .int .i64 Y, .slice a1 nc c1], .bool bb]) ∧ Below w.heap.size w w') ∧ (k < 0 ∨ (¬ k < 0 ∧ (nc : Int) ≤ k)) := by
    cases h : pzB x y cs with
    | false =>
      refine ⟨0, 0, fun _ _ => True, false, 0, fun w hat => (readP_no x y a cs.length cap cs w rfl hat h).mono ?_, by omega⟩
      rintro e w' ⟨rfl, hb⟩
      exact ⟨none, 0, rfl, hb⟩
    | true =>
      obtain ⟨W, H, rfl, rfl, hW, hH, _, hs, h8, hc⟩ := pz_yes h
      refine ⟨W, H, fun _ _ => True, true, cs.length, fun w hat => (readP_yes W H a cs.length cap cs w hW hH hs rfl h8 hc hat).mono ?_, ?_⟩
      · rintro e w' ⟨v, rfl, hR, hb⟩
        obtain ⟨a1, c1, hv⟩ := hR.shape
        subst hv
        exact ⟨a1, c1, rfl, hb⟩
      · rw [dropB, h, Bool.true_and] at hD
        simp only [inB, Bool.and_eq_false_iff, decide_eq_false_iff_not] at hD
        omega
  have HR := Lib.hid hr
  clear hr v
  have body : ∀ (hk2 : k < 0 ∨ (¬ k < 0 ∧ (nc : Int) ≤ k)), Calls Try.prog 20 #[.agg #[.int .i64 x, .int .i64 y, .slice a cs.length cap], .int .i64 k] w fun e w' => e = .returned (.tuple #[.agg #[.int .i64 0, .int .i64 0, .slice none 0 0], .bool false]) ∧ Below w.heap.size w w' := by
    intro hk2
    clear hD hk
    rcases hk2 with hk | ⟨hk, hk3⟩
    all_goals
      go_enter Try.func20, Try.ntmps20
      go_wp2_with fail
      generalize (w.alloc (.cells #[.int .i64 x, .int .i64 y, .slice a cs.length cap] 30)).alloc (.cells #[.int .i64 0, .int .i64 0, .slice none 0 0] 30) = w1 at *
      refine (HR.out _ hat1).mono ?_
      rintro e w2 ⟨a1, c1, rfl, hb2⟩
      have hB2 := hb.trans (hb2.mono hb.size)
      have hE2 := (hb2.block _ (block_lt hE)).trans hE
      clear hb hb2 hat1 hat hE
      go_upto_region 2 with fail
      have hb3 : Below w2.heap.size w2 (w2.alloc (.cells #[.int .i64 X, .int .i64 Y, .slice a1 nc c1] 30)) := (Below.refl _ _).alloc (Nat.le_refl _) _
      have hX3 := heap_alloc_new w2 (.cells #[.int .i64 X, .int .i64 Y, .slice a1 nc c1] 30)
      have hE3 := (hb3.block _ (block_lt hE2)).trans hE2
      have hB3 := hB2.trans (hb3.mono hB2.size)
      clear hB2 hE2 hb3
      generalize w2.alloc (.cells #[.int .i64 X, .int .i64 Y, .slice a1 nc c1] 30) = w3 at *
      generalize w2.heap.size = G at *
      have f0 := cell_of_block hX3 0
      have f1 := cell_of_block hX3 1
      have f2 := cell_of_block hX3 2
      have z0 := cell_of_block hE3 0
      have z1 := cell_of_block hE3 1
      have z2 := cell_of_block hE3 2
      have zf := frozen_of_block hE3
      simp at f0 f1 f2 z0 z1 z2
      have HE3 := Lib.hid hE3
      clear hX3 hE3
      go_wp2_with fail
      obtain ⟨hE5, hb5⟩ := puzzle_stored (B := w.heap.size) HE3.out (by omega) (.int .i64 0) (.int .i64 0) (.slice none 0 0)
      exact bodyPost_ret (res_pair rfl _ _ _ _ _ _ _ _ rfl hE5 Try.underlying30 rfl infPuz rfl) rfl ⟨rfl, hB3.trans hb5⟩
  exact body hk
set_option maxRecDepth 100000 in
set_option maxHeartbeats 1600000 in
theorem iDropClue_yes (W H k : Nat) (a : Option Addr) (n cap : Nat) (cs : List Clu) (w : World) (hn : n = cs.length) (hat : At w a (flatC cs)) (hD : dropB W H cs k = true) :
    Calls Try.prog 20 #[.agg #[.int .i64 W, .int .i64 H, .slice a n cap], .int .i64 k] w fun e w' => ∃ v, e = .returned (.tuple #[.agg #[.int .i64 W, .int .i64 H, v], .bool true]) ∧ RowC w' w.heap.size v (cs.eraseIdx k) ∧ Below w.heap.size w w' := by
  subst hn
  rw [dropB, Bool.and_eq_true, inB_iff] at hD
  obtain ⟨hp, hk1, hk2⟩ := hD
  obtain ⟨W', H', hw, hh, hW, hH, _, hs, h8, hc⟩ := pz_yes hp
  obtain rfl : W = W' := by omega
  obtain rfl : H = H' := by omega
  have hk : k < cs.length := by omega
  have hkn : ¬ ((k : Int) < 0) := by omega
  have hkl : ¬ ((cs.length : Int) ≤ (k : Int)) := by omega
  have HR := Lib.hid (fun w hat => readP_yes W H a cs.length cap cs w hW hH hs rfl h8 hc hat)
  have HWO := Lib.hid (fun B n' cap' a' w' hR hB => without_any (W : Int) (H : Int) B n' cap' k a' cs w' hR hk hB (by omega))
  have hb : Below w.heap.size w ((w.alloc (.cells #[.int .i64 W, .int .i64 H, .slice a cs.length cap] 30)).alloc (.cells #[.int .i64 0, .int .i64 0, .slice none 0 0] 30)) := ((Below.refl _ _).alloc (Nat.le_refl _) _).alloc (by simp) _
  have hE := blk1 w (.cells #[.int .i64 W, .int .i64 H, .slice a cs.length cap] 30) (.cells #[.int .i64 0, .int .i64 0, .slice none 0 0] 30)
  have hat1 := hat.later rfl hb
  clear hp hk1 hk2 hs hc
  go_enter Try.func20, Try.ntmps20
  go_wp2_with fail
  generalize (w.alloc (.cells #[.int .i64 W, .int .i64 H, .slice a cs.length cap] 30)).alloc (.cells #[.int .i64 0, .int .i64 0, .slice none 0 0] 30) = w1 at *
  refine (HR.out _ hat1).mono ?_
  rintro e w2 ⟨v1, rfl, hR2, hb2⟩
  obtain ⟨a1, c1, hv⟩ := hR2.shape
  subst hv
  have hB2 := hb.trans (hb2.mono hb.size)
  have hR2 := hR2.mono hb.size
  have hE2 := (hb2.block _ (block_lt hE)).trans hE
  clear hb hb2 hat1 hat hE
  go_upto_region 2 with fail
  have hb3 : Below w2.heap.size w2 (w2.alloc (.cells #[.int .i64 W, .int .i64 H, .slice a1 cs.length c1] 30)) := (Below.refl _ _).alloc (Nat.le_refl _) _
  have hX3 := heap_alloc_new w2 (.cells #[.int .i64 W, .int .i64 H, .slice a1 cs.length c1] 30)
  have hE3 := (hb3.block _ (block_lt hE2)).trans hE2
  have hB3 := hB2.trans (hb3.mono hB2.size)
  have hR3 := hR2.below hb3
  clear hB2 hE2 hb3 hR2
  generalize w2.alloc (.cells #[.int .i64 W, .int .i64 H, .slice a1 cs.length c1] 30) = w3 at *
  generalize w2.heap.size = G at *
  have f0 := cell_of_block hX3 0
  have f1 := cell_of_block hX3 1
  have f2 := cell_of_block hX3 2
  simp at f0 f1 f2
  have HE3 := Lib.hid hE3
  clear hX3 hE3
  go_wp2_with fail
  refine (HWO.out _ _ _ _ w3 hR3 hB3.size).mono ?_
  rintro e w4 ⟨v4, rfl, hR4, hb4⟩
  obtain ⟨a4, n4, c4, hv⟩ := hR4.form
  subst hv
  have hB4 := hB3.trans (hb4.mono hB3.size)
  have hE4 := (hb4.block _ (block_lt HE3.out)).trans HE3.out
  clear hB3 hb4 HE3 f0 f1 f2 hR3
  have z0 := cell_of_block hE4 0
  have z1 := cell_of_block hE4 1
  have z2 := cell_of_block hE4 2
  have zf := frozen_of_block hE4
  simp at z0 z1 z2
  have HE4 := Lib.hid hE4
  clear hE4
  go_wp2_with fail
  obtain ⟨hE5, hb5⟩ := puzzle_stored (B := w.heap.size) HE4.out (by omega) (.int .i64 W) (.int .i64 H) (.slice a4 n4 c4)
  exact bodyPost_ret (res_pair rfl _ _ _ _ _ _ _ _ rfl hE5 Try.underlying30 rfl infPuz rfl) rfl ⟨_, rfl, hR4.put3 HE4.out, hB4.trans hb5⟩
end Go.Proofs.Ytnnbkbjhombblab
