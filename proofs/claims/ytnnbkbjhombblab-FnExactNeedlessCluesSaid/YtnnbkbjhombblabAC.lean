/- Puzzles by the model: a clue less, DropClue. -/
import Derived.Test.YtnnbkbjhombblabA8
import Derived.Test.YtnnbkbjhombblabAB
import Derived.Outline
namespace Go.Proofs.Ytnnbkbjhombblab
open Go.RowKit

set_option maxRecDepth 100000 in
set_option maxHeartbeats 800000 in
theorem pzWith_any (x y : Int) (a : Option Addr) (n cap : Nat) (b : Option Addr) (m c : Nat) (w : World) :
    Calls Try.prog 30 #[.agg #[.int .i64 x, .int .i64 y, .slice a n cap], .slice b m c] w fun e w' => e = .returned (.agg #[.int .i64 x, .int .i64 y, .slice b m c]) ∧ Below w.heap.size w w' := by
  go_enter Try.func30, Try.ntmps30
  go_wp2_with fail
  exact bodyPost_ret (results_cell_row rfl _ _ _ _ _ _ _ rfl (blk1 w (.cells #[.int .i64 x, .int .i64 y, .slice a n cap] 30) (.cells #[.int .i64 x, .int .i64 y, .slice b m c] 30)) Try.underlying30 rfl infPuz) rfl ⟨rfl, ((Below.refl _ _).alloc (Nat.le_refl _) _).alloc (by simp) _⟩
set_option maxRecDepth 100000 in
set_option maxHeartbeats 1600000 in
theorem sDropClue_no (x y k : Int) (a : Option Addr) (n cap : Nat) (cs : List Clu) (w : World) (hn : n = cs.length) (hat : At w a (flatC cs)) (hl : cs.length ≤ 1048576) (hD : dropB x y cs k = false) :
    Calls Try.prog 19 #[.agg #[.int .i64 x, .int .i64 y, .slice a n cap], .int .i64 k] w fun e w' => e = .returned (.tuple #[.agg #[.int .i64 0, .int .i64 0, .slice none 0 0], .bool false]) ∧ Below w.heap.size w w' := by
  subst hn
  have hb : Below w.heap.size w ((w.alloc (.cells #[.int .i64 x, .int .i64 y, .slice a cs.length cap] 30)).alloc (.cells #[.int .i64 0, .int .i64 0, .slice none 0 0] 30)) := ((Below.refl _ _).alloc (Nat.le_refl _) _).alloc (by simp) _
  have hG := blk0 w (.cells #[.int .i64 x, .int .i64 y, .slice a cs.length cap] 30) (.cells #[.int .i64 0, .int .i64 0, .slice none 0 0] 30)
  have hE := blk1 w (.cells #[.int .i64 x, .int .i64 y, .slice a cs.length cap] 30) (.cells #[.int .i64 0, .int .i64 0, .slice none 0 0] 30)
  have hat1 := hat.later rfl hb
  have hg := fun w hat => pzGood_any x y a cs.length cap cs w rfl hat
  have wr1 : IntKind.i64.wrap ((cs.length : Int) - 1) = (cs.length : Int) - 1 := IntWalk.i64_in _ ⟨by omega, by omega⟩
  have HI := Lib.hid (fun w => l1In_any k 0 ((cs.length : Int) - 1) w)
  cases h : pzB x y cs with
  | false =>
    rw [h] at hg
    have HGD := Lib.hid hg
    clear hg h hD
    go_enter Try.func19, Try.ntmps19
    go_wp2_with fail
    generalize (w.alloc (.cells #[.int .i64 x, .int .i64 y, .slice a cs.length cap] 30)).alloc (.cells #[.int .i64 0, .int .i64 0, .slice none 0 0] 30) = w1 at *
    refine (HGD.out _ hat1).mono ?_
    rintro e w2 ⟨rfl, hb2⟩
    have hB2 := hb.trans (hb2.mono hb.size)
    have hE2 := (hb2.block _ (block_lt hE)).trans hE
    clear hb hb2 hat1 hat hE hG
    have z0 := cell_of_block hE2 0
    have z1 := cell_of_block hE2 1
    have z2 := cell_of_block hE2 2
    have zf := frozen_of_block hE2
    simp at z0 z1 z2
    have HE2 := Lib.hid hE2
    clear hE2
    go_wp2_with fail
    obtain ⟨hE5, hb5⟩ := puzzle_stored (B := w.heap.size) HE2.out (by omega) (.int .i64 0) (.int .i64 0) (.slice none 0 0)
    exact bodyPost_ret (res_pair rfl _ _ _ _ _ _ _ _ rfl hE5 Try.underlying30 rfl infPuz rfl) rfl ⟨rfl, hB2.trans hb5⟩
  | true =>
    rw [h] at hg
    rw [dropB, h, Bool.true_and] at hD
    rw [hD] at HI
    have HGD := Lib.hid hg
    clear hg h hD
    go_enter Try.func19, Try.ntmps19
    go_wp2_with fail
    generalize (w.alloc (.cells #[.int .i64 x, .int .i64 y, .slice a cs.length cap] 30)).alloc (.cells #[.int .i64 0, .int .i64 0, .slice none 0 0] 30) = w1 at *
    refine (HGD.out _ hat1).mono ?_
    rintro e w2 ⟨rfl, hb2⟩
    have hB2 := hb.trans (hb2.mono hb.size)
    have hE2 := (hb2.block _ (block_lt hE)).trans hE
    have hG2 := (hb2.block _ (block_lt hG)).trans hG
    clear hb hb2 hat1 hat hE hG
    have f0 := cell_of_block hG2 0
    have f1 := cell_of_block hG2 1
    have f2 := cell_of_block hG2 2
    have z0 := cell_of_block hE2 0
    have z1 := cell_of_block hE2 1
    have z2 := cell_of_block hE2 2
    have zf := frozen_of_block hE2
    simp at z0 z1 z2 f0 f1 f2
    have HE2 := Lib.hid hE2
    clear hE2 hG2
    go_wp2_with fail
    refine (HI.out _).mono ?_
    rintro e w3 ⟨rfl, rfl⟩
    go_wp2_with fail
    obtain ⟨hE5, hb5⟩ := puzzle_stored (B := w.heap.size) HE2.out (by omega) (.int .i64 0) (.int .i64 0) (.slice none 0 0)
    exact bodyPost_ret (res_pair rfl _ _ _ _ _ _ _ _ rfl hE5 Try.underlying30 rfl infPuz rfl) rfl ⟨rfl, hB2.trans hb5⟩
set_option maxRecDepth 100000 in
set_option maxHeartbeats 1600000 in
theorem sDropClue_yes (W H k : Nat) (a : Option Addr) (n cap : Nat) (cs : List Clu) (w : World) (hn : n = cs.length) (hcap : n ≤ cap) (hcm : cap ≤ 9223372036854775807) (hat : At w a (flatC cs)) (hl : cs.length ≤ 1048576) (hD : dropB W H cs k = true) :
    Calls Try.prog 19 #[.agg #[.int .i64 W, .int .i64 H, .slice a n cap], .int .i64 k] w fun e w' => ∃ v, e = .returned (.tuple #[.agg #[.int .i64 W, .int .i64 H, v], .bool true]) ∧ RowC w' w.heap.size v (cs.eraseIdx k) ∧ Below w.heap.size w w' := by
  subst hn
  rw [dropB, Bool.and_eq_true] at hD
  obtain ⟨h, hi⟩ := hD
  have hk : k < cs.length := by rw [inB_iff] at hi; omega
  have hb : Below w.heap.size w ((w.alloc (.cells #[.int .i64 W, .int .i64 H, .slice a cs.length cap] 30)).alloc (.cells #[.int .i64 0, .int .i64 0, .slice none 0 0] 30)) := ((Below.refl _ _).alloc (Nat.le_refl _) _).alloc (by simp) _
  have hG := blk0 w (.cells #[.int .i64 W, .int .i64 H, .slice a cs.length cap] 30) (.cells #[.int .i64 0, .int .i64 0, .slice none 0 0] 30)
  have hE := blk1 w (.cells #[.int .i64 W, .int .i64 H, .slice a cs.length cap] 30) (.cells #[.int .i64 0, .int .i64 0, .slice none 0 0] 30)
  have hat1 := hat.later rfl hb
  have hg := fun w hat => pzGood_any W H a cs.length cap cs w rfl hat
  have wr1 : IntKind.i64.wrap ((cs.length : Int) - 1) = (cs.length : Int) - 1 := IntWalk.i64_in _ ⟨by omega, by omega⟩
  have hi1 := fun w => l1In_any k 0 ((cs.length : Int) - 1) w
  rw [h] at hg
  rw [hi] at hi1
  have HGD := Lib.hid hg
  have HI := Lib.hid hi1
  have HWO := Lib.hid (fun w hat => pzWithout_any a cs.length cap k cs w rfl hcap hcm hat hk hl)
  have HWI := Lib.hid (fun b m c w => pzWith_any (W : Int) (H : Int) a cs.length cap b m c w)
  clear hg h hi hi1
  go_enter Try.func19, Try.ntmps19
  go_wp2_with fail
  generalize (w.alloc (.cells #[.int .i64 W, .int .i64 H, .slice a cs.length cap] 30)).alloc (.cells #[.int .i64 0, .int .i64 0, .slice none 0 0] 30) = w1 at *
  refine (HGD.out _ hat1).mono ?_
  rintro e w2 ⟨rfl, hb2⟩
  have hB2 := hb.trans (hb2.mono hb.size)
  have hE2 := (hb2.block _ (block_lt hE)).trans hE
  have hG2 := (hb2.block _ (block_lt hG)).trans hG
  have hat2 := hat.later rfl hB2
  clear hb hb2 hat1 hat hE hG
  have f0 := cell_of_block hG2 0
  have f1 := cell_of_block hG2 1
  have f2 := cell_of_block hG2 2
  simp at f0 f1 f2
  have HE2 := Lib.hid hE2
  have HG2 := Lib.hid hG2
  have HA2 := Lib.hid hat2
  have HB2 := Lib.hid hB2
  clear hE2 hG2 hat2 hB2
  go_wp2_with fail
  refine (HI.out _).mono ?_
  rintro e w3 ⟨rfl, rfl⟩
  go_upto_region 3 with fail
  go_region_law (first
    | (go_simp; go_at_call 37; refine (HWO.out _ HA2.out.drew).mono ?_; rintro e w3 ⟨v3, rfl, hO3, hb3⟩; obtain ⟨a3, n3, c3, hv3⟩ := hO3.row.form; subst hv3;
       have HG3 := Lib.hid ((hb3.block _ (block_lt HG2.out)).trans HG2.out); have y0 := cell_of_block HG3.out 0; have y1 := cell_of_block HG3.out 1; have y2 := cell_of_block HG3.out 2; simp at y0 y1 y2)
    | (go_simp; go_at_call 30; refine (HWI.out a3 n3 c3 w3).mono ?_; rintro e w4 ⟨rfl, hb4⟩;
       have HE4 := Lib.hid ((((ofDrewC hb3).trans (hb4.mono (ofDrewC hb3).size)).block _ (block_lt HE2.out)).trans HE2.out); have t0 := cell_of_block HE4.out 0; have t1 := cell_of_block HE4.out 1; have t2 := cell_of_block HE4.out 2; have tf := frozen_of_block HE4.out; simp at t0 t1 t2))
  all_goals
    have hb24 := (ofDrewC hb3).trans (hb4.mono (ofDrewC hb3).size)
    have hO4 := (hO3.later hb4).row.mono (B' := w.heap.size) HB2.out.size
    obtain ⟨hE5, hb5⟩ := puzzle_stored (B := w.heap.size) HE4.out (by omega) (.int .i64 W) (.int .i64 H) (.slice a3 n3 c3)
    have hb9 := (HB2.out.trans (hb24.mono HB2.out.size)).trans hb5
    go_wp2_with fail
    exact bodyPost_ret (res_pair rfl _ _ _ _ _ _ _ _ rfl hE5 Try.underlying30 rfl infPuz rfl) rfl ⟨_, rfl, hO4.put3 HE4.out, hb9⟩
theorem core_DropClue (x y k : Int) (cs : List Clu) (hl : cs.length ≤ 1048576) : ∃ (X Y : Int) (R : Bool) (D : List Clu), D.length ≤ 2000000 ∧
    (∀ (a : Option Addr) (n c : Nat) (w : World), n = cs.length → n ≤ c → c ≤ 9223372036854775807 → At w a (flatC cs) → Calls Try.prog 19 #[.agg #[.int .i64 x, .int .i64 y, .slice a n c], .int .i64 k] w fun e w' => ∃ v, e = .returned (.tuple #[.agg #[.int .i64 X, .int .i64 Y, v], .bool R]) ∧ RowC w' w.heap.size v D ∧ Below w.heap.size w w') ∧
    (∀ (a : Option Addr) (n c : Nat) (w : World), n = cs.length → n ≤ c → c ≤ 9223372036854775807 → At w a (flatC cs) → Calls Try.prog 20 #[.agg #[.int .i64 x, .int .i64 y, .slice a n c], .int .i64 k] w fun e w' => ∃ v, e = .returned (.tuple #[.agg #[.int .i64 X, .int .i64 Y, v], .bool R]) ∧ RowC w' w.heap.size v D ∧ Below w.heap.size w w') := by
  cases h : dropB x y cs k with
  | false =>
    refine ⟨0, 0, false, [], by simp, fun a n c w hn _ _ hat => (sDropClue_no x y k a n c cs w hn hat hl h).mono ?_, fun a n c w hn _ _ hat => (iDropClue_no x y k a n c cs w hn hat h).mono ?_⟩
    all_goals
      rintro e w' ⟨rfl, hb⟩
      exact ⟨_, rfl, RowC.nil _ _, hb⟩
  | true =>
    have hd := h
    rw [dropB, Bool.and_eq_true, inB_iff] at hd
    obtain ⟨hp, hk1, hk2⟩ := hd
    obtain ⟨W, H, rfl, rfl, _⟩ := pz_yes hp
    obtain ⟨K, rfl⟩ : ∃ K : Nat, k = K := ⟨k.toNat, by omega⟩
    exact ⟨W, H, true, cs.eraseIdx K, by have := List.length_eraseIdx_le cs K; omega, fun a n c w hn hc hm hat => sDropClue_yes W H K a n c cs w hn hc hm hat hl h, fun a n c w hn _ _ hat => iDropClue_yes W H K a n c cs w hn hat h⟩
end Go.Proofs.Ytnnbkbjhombblab
