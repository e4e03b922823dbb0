/- AddClue by the program. -/
import Derived.Test.YthlbplmghjaeoaaAB
import Derived.Test.YthlbplmghjaeoaaA7
namespace Go.Proofs.Ythlbplmghjaeoaa
open Go.RowKit

theorem pzB_snoc {x y : Int} {cs : List Clu} {c : Clu} (h : pzB x y (cs ++ [c]) = true) : pzB x y cs = true := by
  simp only [pzB, Bool.and_eq_true, decide_eq_true_eq, List.all_append, List.length_append, List.length_singleton] at h ⊢
  exact ⟨h.1, by omega, h.2.2.1⟩
theorem pzB_zero (cs : List Clu) : pzB 0 0 cs = false := by
  have h : hsB 0 0 = false := by decide
  rw [pzB, h, Bool.false_and]
set_option maxRecDepth 100000 in
set_option maxHeartbeats 800000 in
theorem iAdd_any (x y : Int) (c : Clu) (a : Option Addr) (n cap : Nat) (cs : List Clu) (w : World) (hn : n = cs.length) (hat : At w a (flatC cs)) :
    Calls Try.prog 9 #[.agg #[.int .i64 x, .int .i64 y, .slice a n cap], valC c] w fun e w' => ∃ X Y v D, e = .returned (.tuple #[.agg #[.int .i64 X, .int .i64 Y, v], .bool (pzB x y (cs ++ [c]))]) ∧ RowC w' w.heap.size v D ∧ Below w.heap.size w w' ∧ (pzB x y (cs ++ [c]) = true → X = x ∧ Y = y ∧ D = cs ++ [c]) ∧ (pzB x y (cs ++ [c]) = false → X = 0 ∧ Y = 0 ∧ D = []) := by
  subst hn
  have hr : ∃ (X Y : Int) (ds : List Clu) (B : Bool), pzB X Y (ds ++ [c]) = pzB x y (cs ++ [c]) ∧ (pzB x y (cs ++ [c]) = true → X = x ∧ Y = y ∧ ds = cs) ∧ ds.length ≤ 8 ∧ ∀ w, At w a (flatC cs) → Calls Try.prog 20 #[.agg #[.int .i64 x, .int .i64 y, .slice a cs.length cap]] w fun e w' => ∃ v, e = .returned (.tuple #[.agg #[.int .i64 X, .int .i64 Y, v], .bool B]) ∧ RowC w' w.heap.size v ds ∧ Below w.heap.size w w' := by
    cases h : pzB x y cs with
    | false =>
      have h2 : pzB x y (cs ++ [c]) = false := by
        cases h3 : pzB x y (cs ++ [c]) with
        | false => rfl
        | true => rw [pzB_snoc h3] at h; cases h
      refine ⟨0, 0, [], false, by rw [h2, pzB_zero], fun h3 => by (rw [h2] at h3; cases h3), by simp, fun w hat => (readP_no x y a cs.length cap cs w rfl hat h).mono ?_⟩
      rintro e w' ⟨rfl, hb⟩
      exact ⟨_, rfl, RowC.nil _ _, hb⟩
    | true =>
      obtain ⟨W, H, rfl, rfl, hW, hH, h9, hs, h8, hc⟩ := pz_yes h
      exact ⟨W, H, cs, true, rfl, fun _ => ⟨rfl, rfl, rfl⟩, h8, fun w hat => readP_yes W H a cs.length cap cs w hW hH hs rfl h8 hc hat⟩
  obtain ⟨X, Y, ds, B, hp, hpy, hd8, hr⟩ := hr
  have HR := Lib.hid hr
  have HPY := Lib.hid hpy
  have hr2 : ∀ (a' : Option Addr) (n' c' : Nat) (w : World), n' = (ds ++ [c]).length → At w a' (flatC (ds ++ [c])) → Calls Try.prog 20 #[.agg #[.int .i64 X, .int .i64 Y, .slice a' n' c']] w fun e w' => ∃ X2 Y2 v D, e = .returned (.tuple #[.agg #[.int .i64 X2, .int .i64 Y2, v], .bool (pzB x y (cs ++ [c]))]) ∧ RowC w' w.heap.size v D ∧ Below w.heap.size w w' ∧ (pzB x y (cs ++ [c]) = true → X2 = x ∧ Y2 = y ∧ D = cs ++ [c]) ∧ (pzB x y (cs ++ [c]) = false → X2 = 0 ∧ Y2 = 0 ∧ D = []) := by
    intro a' n' c' w9 hn9 hat9
    cases h : pzB x y (cs ++ [c]) with
    | false =>
      rw [h] at hp
      refine (readP_no X Y a' n' c' (ds ++ [c]) w9 hn9 hat9 hp).mono ?_
      rintro e w' ⟨rfl, hb⟩
      exact ⟨0, 0, _, [], rfl, RowC.nil _ _, hb, fun h => (by cases h), fun _ => ⟨rfl, rfl, rfl⟩⟩
    | true =>
      rw [h] at hp
      obtain ⟨rfl, rfl, rfl⟩ := hpy h
      obtain ⟨W, H, rfl, rfl, hW, hH, h9, hs, h8, hc⟩ := pz_yes hp
      refine (readP_yes W H a' n' c' (ds ++ [c]) w9 hW hH hs hn9 h8 hc hat9).mono ?_
      rintro e w' ⟨v, rfl, hR, hb⟩
      exact ⟨_, _, v, _, rfl, hR, hb, fun _ => ⟨rfl, rfl, rfl⟩, fun h => (by cases h)⟩
  have HR2 := Lib.hid hr2
  have HWI := Lib.hid (fun B n' cap' a' (b : Option Addr) m c' w' hR hm hat hB => with_any X Y B n' cap' a' ds [c] b m c' w' hR hm hat hB (by simp; omega))
  clear hr hr2 hp hpy
  unfold valC
  generalize pzB x y (cs ++ [c]) = q at *
  generalize cs ++ [c] = D0 at *
  have hb : Below w.heap.size w (((w.alloc (.cells #[.int .i64 x, .int .i64 y, .slice a cs.length cap] 30)).alloc (.cells #[.int .i64 c.k, .int .i64 c.a, .int .i64 c.b] 34)).alloc (.cells #[.int .i64 0, .int .i64 0, .slice none 0 0] 30)) := (((Below.refl _ _).alloc (Nat.le_refl _) _).alloc (by simp) _).alloc (by simp; omega) _
  obtain ⟨-, hC, hE⟩ := blk3 w (.cells #[.int .i64 x, .int .i64 y, .slice a cs.length cap] 30) (.cells #[.int .i64 c.k, .int .i64 c.a, .int .i64 c.b] 34) (.cells #[.int .i64 0, .int .i64 0, .slice none 0 0] 30)
  have hat1 := hat.later rfl hb
  go_enter Try.func9, Try.ntmps9
  go_wp2_with fail
  generalize ((w.alloc (.cells #[.int .i64 x, .int .i64 y, .slice a cs.length cap] 30)).alloc (.cells #[.int .i64 c.k, .int .i64 c.a, .int .i64 c.b] 34)).alloc (.cells #[.int .i64 0, .int .i64 0, .slice none 0 0] 30) = w1 at *
  refine (HR.out _ hat1).mono ?_
  rintro e w2 ⟨v1, rfl, hR2, hb2⟩
  obtain ⟨a1, c1, hv⟩ := hR2.shape
  subst hv
  have hB2 := hb.trans (hb2.mono hb.size)
  have hR2 := hR2.mono hb.size
  have hE2 := (hb2.block _ (block_lt hE)).trans hE
  have hC2 := (hb2.block _ (block_lt hC)).trans hC
  clear hb hb2 hat1 hat hE hC
  go_upto_region 2 with fail
  have hb3 : Below w2.heap.size w2 (w2.alloc (.cells #[.int .i64 X, .int .i64 Y, .slice a1 ds.length c1] 30)) := (Below.refl _ _).alloc (Nat.le_refl _) _
  have hX3 := heap_alloc_new w2 (.cells #[.int .i64 X, .int .i64 Y, .slice a1 ds.length c1] 30)
  have hE3 := (hb3.block _ (block_lt hE2)).trans hE2
  have hC3 := (hb3.block _ (block_lt hC2)).trans hC2
  have hB3 := hB2.trans (hb3.mono hB2.size)
  have hR3 := hR2.below hb3
  clear hB2 hE2 hC2 hb3 hR2
  generalize w2.alloc (.cells #[.int .i64 X, .int .i64 Y, .slice a1 ds.length c1] 30) = w3 at *
  generalize w2.heap.size = G at *
  have f0 := cell_of_block hX3 0
  have f1 := cell_of_block hX3 1
  have f2 := cell_of_block hX3 2
  have g0 := cell_of_block hC3 0
  have g1 := cell_of_block hC3 1
  have g2 := cell_of_block hC3 2
  simp at f0 f1 f2 g0 g1 g2
  have HE3 := Lib.hid hE3
  clear hX3 hE3 hC3
  have hb4 : Below w3.heap.size w3 (w3.alloc (.cells #[.int .i64 c.k, .int .i64 c.a, .int .i64 c.b] 34)) := (Below.refl _ _).alloc (Nat.le_refl _) _
  have hA4 := at_clue w3 c 34
  have hR4 := hR3.below hb4
  have hB4 := hB3.trans (hb4.mono hB3.size)
  have hE4 := Lib.hid ((hb4.block _ (block_lt HE3.out)).trans HE3.out)
  go_wp2_with fail
  refine (HWI.out w.heap.size ds.length c1 a1 (some ⟨w3.heap.size, 0, none⟩) 1 1 _ hR4 rfl hA4 hB4.size).mono ?_
  rintro e w5 ⟨v5, rfl, hR5, hb5⟩
  obtain ⟨a5, c5, hv⟩ := hR5.shape
  subst hv
  have hB5 := hB4.trans (hb5.mono hB4.size)
  have hE5 := Lib.hid ((hb5.block _ (block_lt hE4.out)).trans hE4.out)
  have hat5 := hR5.at
  clear hb4 hA4 hR4 hB4 hE4 hb5 hR3 hB3 HE3 f0 f1 f2 g0 g1 g2 hR5
  go_wp2_with fail
  refine (HR2.out a5 _ c5 w5 (by simp) hat5).mono ?_
  rintro e w6 ⟨X2, Y2, v6, D, rfl, hR6, hb6, hy, hno⟩
  obtain ⟨a6, c6, hv⟩ := hR6.shape
  subst hv
  have hB6 := hB5.trans (hb6.mono hB5.size)
  have hR6 := hR6.mono hB5.size
  have hE6 := (hb6.block _ (block_lt hE5.out)).trans hE5.out
  clear hb6 hB5 hE5 hat5
  have z0 := cell_of_block hE6 0
  have z1 := cell_of_block hE6 1
  have z2 := cell_of_block hE6 2
  have zf := frozen_of_block hE6
  simp at z0 z1 z2
  have HE6 := Lib.hid hE6
  clear hE6
  go_wp2_with fail
  obtain ⟨hE7, hb7⟩ := puzzle_stored (B := w.heap.size) HE6.out (by omega) (.int .i64 X2) (.int .i64 Y2) (.slice a6 D.length c6)
  exact bodyPost_ret (res_pair rfl _ _ _ _ _ _ _ _ rfl hE7 Try.underlying30 rfl infPuz rfl) rfl ⟨X2, Y2, _, D, rfl, hR6.put3 HE6.out, hB6.trans hb7, hy, hno⟩
end Go.Proofs.Ythlbplmghjaeoaa
