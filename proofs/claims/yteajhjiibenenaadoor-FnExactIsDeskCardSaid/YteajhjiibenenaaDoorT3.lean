/- Walks: cells as rows by the model; a grid's text in any case. -/
import Derived.Test.YteajhjiibenenaaDoorT2
namespace Go.Proofs.YteajhjiibenenaaDoor
open Go.RowKit

theorem brGo_le (W : Nat) : ∀ (x : List UInt8) (k : Nat), (brGo W k x).length ≤ 2 * x.length
  | [], _ => by simp [brGo]
  | c :: r, k => by
    have := brGo_le W r (k + 1)
    unfold brGo
    split <;> simp <;> omega


theorem gSize (l : List UInt8) : (gW l = 0 ∧ gH l = 0) ∨ ((1 ≤ gW l ∧ gW l ≤ 8) ∧ (1 ≤ gH l ∧ gH l ≤ 8)) := by
  by_cases hg : boGoodM l = true
  · have hB := Brd.of hg
    obtain ⟨g1, g2, _⟩ := hB.grid
    right
    rw [g1, g2]
    exact ⟨⟨hB.w1, hB.w8⟩, hB.h1, hB.h8⟩
  · left; simp [gW, gH, hg]
end Go.Proofs.YteajhjiibenenaaDoor
