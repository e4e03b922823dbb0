/- Puzzles by the program: IsPuzzle, IsClue. -/
import Derived.Test.YtnnbkbjhombblaaA6
import Derived.Outline
namespace Go.Proofs.Ytnnbkbjhombblaa
open Go.RowKit

theorem pz_yes {x y : Int} {cs : List Clu} (h : pzB x y cs = true) : ∃ W H : Nat, x = W ∧ y = H ∧ (1 ≤ W ∧ W ≤ 8) ∧ (1 ≤ H ∧ H ≤ 8) ∧ W * H ≤ 9 ∧ hsB W H = true ∧ cs.length ≤ 8 ∧ ∀ c ∈ cs, cluB W H c = true := by
  simp only [pzB, Bool.and_eq_true, decide_eq_true_eq, List.all_eq_true] at h
  obtain ⟨h1, h2, h3⟩ := h
  rcases sz_case x y 9 with h | ⟨_, W, H, rfl, rfl, a1, a2, a3, a4, a5⟩
  · rw [hsB, h] at h1; cases h1
  · exact ⟨W, H, rfl, rfl, ⟨a1, a2⟩, ⟨a3, a4⟩, by omega, h1, h2, h3⟩
theorem readP_no (x y : Int) (a : Option Addr) (n cap : Nat) (cs : List Clu) (w : World) (hn : n = cs.length) (hat : At w a (flatC cs)) (h : pzB x y cs = false) :
    Calls Try.prog 43 #[.agg #[.int .i64 x, .int .i64 y, .slice a n cap]] w fun e w' => e = .returned (.tuple #[.agg #[.int .i64 0, .int .i64 0, .slice none 0 0], .bool false]) ∧ Below w.heap.size w w' := by
  rcases sz_case x y 9 with h1 | ⟨h1, W, H, rfl, rfl, a1, a2, a3, a4, a5⟩
  · exact readP_size x y a n cap w h1
  · by_cases h8 : 8 < n
    · exact readP_long _ _ a n cap w h1 h8
    · simp only [pzB, hsB, h1, Bool.true_and, Bool.and_eq_false_iff, decide_eq_false_iff_not, List.all_eq_false] at h
      rcases h with h | ⟨c, hc, hf⟩
      · omega
      · exact readP_bad W H a n cap cs w ⟨a1, a2⟩ ⟨a3, a4⟩ h1 hn (by omega) ⟨c, hc, by simpa using hf⟩ hat
set_option maxRecDepth 100000 in
set_option maxHeartbeats 800000 in
theorem iIsPuzzle_any (x y : Int) (a : Option Addr) (n cap : Nat) (cs : List Clu) (w : World) (hn : n = cs.length) (hat : At w a (flatC cs)) :
    Calls Try.prog 17 #[.agg #[.int .i64 x, .int .i64 y, .slice a n cap]] w fun e w' => e = .returned (.bool (pzB x y cs)) ∧ Below w.heap.size w w' := by
  subst hn
  have hb : Below w.heap.size w (w.alloc (.cells #[.int .i64 x, .int .i64 y, .slice a cs.length cap] 35)) := (Below.refl _ _).alloc (Nat.le_refl _) _
  have hat1 := hat.later rfl hb
  cases h : pzB x y cs with
  | false =>
    have hr := fun w hat => readP_no x y a cs.length cap cs w rfl hat h
    have HR := Lib.hid hr
    clear hr h
    go_enter Try.func17, Try.ntmps17
    go_wp2_with fail
    refine (HR.out _ hat1).mono ?_
    rintro e w1 ⟨rfl, hb1⟩
    have hb2 := hb.trans (hb1.mono hb.size)
    clear hb hb1 hat1
    go_wp2_with fail
    go_ret
    exact ⟨rfl, hb2.alloc hb2.size _⟩
  | true =>
    obtain ⟨W, H, rfl, rfl, hW, hH, _, hs, h8, hc⟩ := pz_yes h
    have hr := fun w hat => readP_yes W H a cs.length cap cs w hW hH hs rfl h8 hc hat
    have HR := Lib.hid hr
    clear hr h hs hc
    go_enter Try.func17, Try.ntmps17
    go_wp2_with fail
    refine (HR.out _ hat1).mono ?_
    rintro e w1 ⟨v, rfl, hR1, hb1⟩
    obtain ⟨a1, c1, hv⟩ := hR1.shape
    subst hv
    have hb2 := hb.trans (hb1.mono hb.size)
    clear hb hb1 hat1
    go_wp2_with fail
    go_ret
    exact ⟨rfl, hb2.alloc hb2.size _⟩
set_option maxRecDepth 100000 in
set_option maxHeartbeats 800000 in
theorem iIsClue_any (x y : Int) (c : Clu) (w : World) :
    Calls Try.prog 13 #[.int .i64 x, .int .i64 y, valC c] w fun e w' => e = .returned (.bool (pzB x y [c])) ∧ Below w.heap.size w w' := by
  have hb : Below w.heap.size w ((w.alloc (.cells #[.int .i64 c.k, .int .i64 c.a, .int .i64 c.b] 25)).alloc (.cells #[.int .i64 c.k, .int .i64 c.a, .int .i64 c.b] 25)) := ((Below.refl _ _).alloc (Nat.le_refl _) _).alloc (by simp) _
  have hat := at_clue (w.alloc (.cells #[.int .i64 c.k, .int .i64 c.a, .int .i64 c.b] 25)) c 25
  rw [show (w.alloc (.cells #[.int .i64 c.k, .int .i64 c.a, .int .i64 c.b] 25)).heap.size = w.heap.size + 1 by simp] at hat
  unfold valC
  go_enter Try.func13, Try.ntmps13
  go_wp2_with fail
  refine (iIsPuzzle_any x y _ _ _ [c] _ rfl hat).mono ?_
  rintro e w1 ⟨rfl, hb1⟩
  have hb2 := hb.trans (hb1.mono hb.size)
  clear hb hb1 hat
  go_wp2_with fail
  go_ret
  exact ⟨rfl, hb2⟩
end Go.Proofs.Ytnnbkbjhombblaa
