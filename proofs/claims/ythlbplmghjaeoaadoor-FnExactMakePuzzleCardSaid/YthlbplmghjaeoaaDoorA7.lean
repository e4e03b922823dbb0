/- Puzzles by the program: IsPuzzle, IsClue. -/
import Derived.Test.YthlbplmghjaeoaaDoorA6
import Derived.Outline
namespace Go.Proofs.YthlbplmghjaeoaaDoor
open Go.RowKit

theorem pz_yes {x y : Int} {cs : List Clu} (h : pzB x y cs = true) : ∃ W H : Nat, x = W ∧ y = H ∧ (1 ≤ W ∧ W ≤ 8) ∧ (1 ≤ H ∧ H ≤ 8) ∧ W * H ≤ 9 ∧ hsB W H = true ∧ cs.length ≤ 8 ∧ ∀ c ∈ cs, cluB W H c = true := by
  simp only [pzB, Bool.and_eq_true, decide_eq_true_eq, List.all_eq_true] at h
  obtain ⟨h1, h2, h3⟩ := h
  rcases sz_case x y 9 with h | ⟨_, W, H, rfl, rfl, a1, a2, a3, a4, a5⟩
  · rw [hsB, h] at h1; cases h1
  · exact ⟨W, H, rfl, rfl, ⟨a1, a2⟩, ⟨a3, a4⟩, by omega, h1, h2, h3⟩
theorem readP_no (x y : Int) (a : Option Addr) (n cap : Nat) (cs : List Clu) (w : World) (hn : n = cs.length) (hat : At w a (flatC cs)) (h : pzB x y cs = false) :
    Calls Tryd.prog 35 #[.agg #[.int .i64 x, .int .i64 y, .slice a n cap]] w fun e w' => e = .returned (.tuple #[.agg #[.int .i64 0, .int .i64 0, .slice none 0 0], .bool false]) ∧ Below w.heap.size w w' := by
  rcases sz_case x y 9 with h1 | ⟨h1, W, H, rfl, rfl, a1, a2, a3, a4, a5⟩
  · exact readP_size x y a n cap w h1
  · by_cases h8 : 8 < n
    · exact readP_long _ _ a n cap w h1 h8
    · simp only [pzB, hsB, h1, Bool.true_and, Bool.and_eq_false_iff, decide_eq_false_iff_not, List.all_eq_false] at h
      rcases h with h | ⟨c, hc, hf⟩
      · omega
      · exact readP_bad W H a n cap cs w ⟨a1, a2⟩ ⟨a3, a4⟩ h1 hn (by omega) ⟨c, hc, by simpa using hf⟩ hat
end Go.Proofs.YthlbplmghjaeoaaDoor
