/- HarderPuzzle by the program. -/
import Derived.Test.YtnnbkbjhombblabAU
import Derived.Test.YtnnbkbjhombblabAO
namespace Go.Proofs.Ytnnbkbjhombblab
open Go.RowKit

set_option maxRecDepth 100000 in
set_option maxHeartbeats 1600000 in
theorem iHarder_no (x y : Int) (a : Option Addr) (n cap : Nat) (cs : List Clu) (w : World) (hn : n = cs.length) (hat : At w a (flatC cs)) (hD : csS x y cs = false) :
    Calls Try.prog 26 #[.agg #[.int .i64 x, .int .i64 y, .slice a n cap]] w fun e w' => e = .returned (.tuple #[.agg #[.int .i64 0, .int .i64 0, .slice none 0 0], .bool false]) ∧ Below w.heap.size w w' := by
  subst hn
  have hb : Below w.heap.size w ((w.alloc (.cells #[.int .i64 x, .int .i64 y, .slice a cs.length cap] 30)).alloc (.cells #[.int .i64 0, .int .i64 0, .slice none 0 0] 30)) := ((Below.refl _ _).alloc (Nat.le_refl _) _).alloc (by simp) _
  have hE := blk1 w (.cells #[.int .i64 x, .int .i64 y, .slice a cs.length cap] 30) (.cells #[.int .i64 0, .int .i64 0, .slice none 0 0] 30)
  have hat1 := hat.later rfl hb
  have hr : ∃ (X Y : Int) (S : Nat) (hS : ((S : Int) != 1) = true) (B : Bool), ∀ w, At w a (flatC cs) → Calls Try.prog 38 #[.agg #[.int .i64 x, .int .i64 y, .slice a cs.length cap]] w fun e w' => ∃ a1 n1 c1 a2 c2, e = .returned (.tuple #[.agg #[.int .i64 X, .int .i64 Y, .slice a1 n1 c1], .slice a2 S c2, .bool B]) ∧ Below w.heap.size w w' := by
    cases h : pzB x y cs with
    | false =>
      refine ⟨0, 0, 0, rfl, false, fun w hat => (readS_no x y a cs.length cap cs w rfl hat h).mono ?_⟩
      rintro e w' ⟨rfl, hb⟩
      exact ⟨none, 0, 0, none, 0, rfl, hb⟩
    | true =>
      obtain ⟨W, H, rfl, rfl, hW, hH, h9, hs, h8, hc⟩ := pz_yes h
      rw [csS_yes h] at hD
      refine ⟨W, H, (solC W (W * H) cs).length, by rw [bne, hD]; rfl, true, fun w hat => (readS_yes W H a cs.length cap cs w rfl hat h).mono ?_⟩
      rintro e w' ⟨v, u, rfl, hR, hO, hb⟩
      obtain ⟨a1, c1, rfl⟩ := hR.shape
      obtain ⟨a2, c2, rfl⟩ := hO.shape
      rw [List.length_map]
      exact ⟨_, _, _, _, _, rfl, hb⟩
  obtain ⟨X, Y, S, hS, B, hr⟩ := hr
  have HR := Lib.hid hr
  clear hr hD hat
  go_enter Try.func26, Try.ntmps26
  go_wp2_with fail
  generalize (w.alloc (.cells #[.int .i64 x, .int .i64 y, .slice a cs.length cap] 30)).alloc (.cells #[.int .i64 0, .int .i64 0, .slice none 0 0] 30) = w1 at *
  refine (HR.out _ hat1).mono ?_
  rintro e w2 ⟨a1, n1, c1, a2, c2, rfl, hb2⟩
  have hB2 := hb.trans (hb2.mono hb.size)
  have hE2 := (hb2.block _ (block_lt hE)).trans hE
  clear hb hb2 hat1 hE
  have hb3 : Below w2.heap.size w2 (w2.alloc (.cells #[.int .i64 X, .int .i64 Y, .slice a1 n1 c1] 30)) := (Below.refl _ _).alloc (Nat.le_refl _) _
  have hE3 := (hb3.block _ (block_lt hE2)).trans hE2
  have hB3 := hB2.trans (hb3.mono hB2.size)
  go_upto_region 2 with fail
  clear hb3 hE2 hB2
  generalize w2.alloc (.cells #[.int .i64 X, .int .i64 Y, .slice a1 n1 c1] 30) = w3 at *
  have HE3 := Lib.hid hE3
  have z0 := cell_of_block hE3 0
  have z1 := cell_of_block hE3 1
  have z2 := cell_of_block hE3 2
  have zf := frozen_of_block hE3
  simp at z0 z1 z2
  clear hE3
  go_wp2_with fail
  obtain ⟨hE5, hb5⟩ := puzzle_stored (B := w.heap.size) HE3.out (by omega) (.int .i64 0) (.int .i64 0) (.slice none 0 0)
  exact bodyPost_ret (res_pair rfl _ _ _ _ _ _ _ _ rfl hE5 Try.underlying30 rfl infPuz rfl) rfl ⟨rfl, hB3.trans hb5⟩
set_option maxRecDepth 100000 in
set_option maxHeartbeats 1600000 in
theorem iHarder_yes (W H : Nat) (a : Option Addr) (n cap : Nat) (cs : List Clu) (w : World) (hn : n = cs.length) (hat : At w a (flatC cs)) (hD : csS W H cs = true) :
    Calls Try.prog 26 #[.agg #[.int .i64 W, .int .i64 H, .slice a n cap]] w fun e w' => ∃ v, e = .returned (.tuple #[.agg #[.int .i64 W, .int .i64 H, v], .bool true]) ∧ RowC w' w.heap.size v (hardC W H cs.length 0 cs) ∧ Below w.heap.size w w' := by
  subst hn
  have h : pzB W H cs = true := by rw [csS, Bool.and_eq_true] at hD; exact hD.1
  rw [csS_yes h] at hD
  have hne : (((solC W (W * H) cs).length : Int) != 1) = false := by rw [bne, hD]; rfl
  obtain ⟨W', H', hw, hh, hW, hH, h9, hs, h8, hc⟩ := pz_yes h
  obtain rfl : W = W' := by omega
  obtain rfl : H = H' := by omega
  have hb : Below w.heap.size w ((w.alloc (.cells #[.int .i64 W, .int .i64 H, .slice a cs.length cap] 30)).alloc (.cells #[.int .i64 0, .int .i64 0, .slice none 0 0] 30)) := ((Below.refl _ _).alloc (Nat.le_refl _) _).alloc (by simp) _
  have hE := blk1 w (.cells #[.int .i64 W, .int .i64 H, .slice a cs.length cap] 30) (.cells #[.int .i64 0, .int .i64 0, .slice none 0 0] 30)
  have hat1 := hat.later rfl hb
  have HR := Lib.hid (fun w hat => readS_yes W H a cs.length cap cs w rfl hat h)
  have HHD := Lib.hid (fun B n' cap' a' w' hR hB => harder_any W H B n' cap' a' cs w' hW hH h9 h8 hc hR hB)
  clear h hs hc hat hw hh hD
  generalize hardC W H cs.length 0 cs = D at *
  generalize solC W (W * H) cs = S at *
  go_enter Try.func26, Try.ntmps26
  go_wp2_with fail
  generalize (w.alloc (.cells #[.int .i64 W, .int .i64 H, .slice a cs.length cap] 30)).alloc (.cells #[.int .i64 0, .int .i64 0, .slice none 0 0] 30) = w1 at *
  refine (HR.out _ hat1).mono ?_
  rintro e w2 ⟨v1, u1, rfl, hR2, hO2, hb2⟩
  obtain ⟨a1, c1, hv⟩ := hR2.shape
  subst hv
  obtain ⟨a2, c2, hv⟩ := hO2.shape
  subst hv
  simp only [List.length_map]
  have hB2 := hb.trans (hb2.mono hb.size)
  have hR2 := hR2.mono hb.size
  have hE2 := (hb2.block _ (block_lt hE)).trans hE
  clear hb hb2 hat1 hE hO2
  go_upto_region 2 with fail
  have hb3 : Below w2.heap.size w2 (w2.alloc (.cells #[.int .i64 W, .int .i64 H, .slice a1 cs.length c1] 30)) := (Below.refl _ _).alloc (Nat.le_refl _) _
  have hX3 := heap_alloc_new w2 (.cells #[.int .i64 W, .int .i64 H, .slice a1 cs.length c1] 30)
  have hE3 := (hb3.block _ (block_lt hE2)).trans hE2
  have hB3 := hB2.trans (hb3.mono hB2.size)
  have hR3 := hR2.below hb3
  clear hB2 hE2 hb3 hR2
  generalize w2.alloc (.cells #[.int .i64 W, .int .i64 H, .slice a1 cs.length c1] 30) = w3 at *
  generalize w2.heap.size = G at *
  have f0 := cell_of_block hX3 0
  have f1 := cell_of_block hX3 1
  have f2 := cell_of_block hX3 2
  simp at f0 f1 f2
  have HE3 := Lib.hid hE3
  clear hX3 hE3
  go_wp2_with fail
  refine (HHD.out _ _ _ _ w3 hR3 hB3.size).mono ?_
  rintro e w4 ⟨v4, rfl, hR4, hb4⟩
  obtain ⟨a4, n4, c4, hv⟩ := hR4.form
  subst hv
  have hB4 := hB3.trans (hb4.mono hB3.size)
  have hE4 := (hb4.block _ (block_lt HE3.out)).trans HE3.out
  clear hB3 hb4 HE3 f0 f1 f2 hR3
  have z0 := cell_of_block hE4 0
  have z1 := cell_of_block hE4 1
  have z2 := cell_of_block hE4 2
  have zf := frozen_of_block hE4
  simp at z0 z1 z2
  have HE4 := Lib.hid hE4
  clear hE4
  go_wp2_with fail
  obtain ⟨hE5, hb5⟩ := puzzle_stored (B := w.heap.size) HE4.out (by omega) (.int .i64 W) (.int .i64 H) (.slice a4 n4 c4)
  exact bodyPost_ret (res_pair rfl _ _ _ _ _ _ _ _ rfl hE5 Try.underlying30 rfl infPuz rfl) rfl ⟨_, rfl, hR4.put3 HE4.out, hB4.trans hb5⟩
end Go.Proofs.Ytnnbkbjhombblab
