/- Walks: how many mines, and which, as the program tells them. -/
import Derived.Test.YthlbplmghjaeoaaDoorI4
namespace Go.Proofs.YthlbplmghjaeoaaDoor
open Go.RowKit

theorem placesGo_count (b : UInt8) : ∀ (l : List UInt8) (i : Nat), (placesGo b i l).length = l.count b
  | [], _ => by simp [placesGo]
  | c :: r, i => by
    unfold placesGo
    by_cases h : c = b
    · rw [if_pos h, List.length_cons, placesGo_count b r, h, List.count_cons_self]
    · rw [if_neg h, placesGo_count b r, List.count_cons_of_ne h]
theorem gC_eq (l : List UInt8) : gC l = (places 42 (gCells l)).length := by
  unfold gC gCells
  by_cases h : boGoodM l = true
  · rw [if_pos h, if_pos h, places, places, placesGo_count, placesGo_count, cellsM, List.count_filter (by decide)]
  · rw [if_neg h, if_neg h]; rfl
theorem minesM_eq (l : List UInt8) : minesM l = places 42 (gCells l) := by
  unfold minesM gCells
  by_cases h : boGoodM l = true
  · rw [if_pos h, if_pos h]
  · rw [if_neg h, if_neg h]; rfl

theorem minesM_len (l : List UInt8) : (minesM l).length ≤ 1048576 := by
  rw [minesM_eq]
  exact Nat.le_trans (places_le _ _) (Nat.le_trans (gCells_le l) (by decide))


end Go.Proofs.YthlbplmghjaeoaaDoor
