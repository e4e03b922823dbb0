/- Opening: all openings of a text, and how many there are, by the program and by the model. -/
import Derived.Test.YtndmkbkmfonefadDoorGYB
import Derived.Outline
namespace Go.Proofs.YtndmkbkmfonefadDoor
open Go.RowKit

theorem gW_pos (l : List UInt8) : 0 < (gCells l).length → 1 ≤ gW l := by
  intro h
  rw [gCells_len] at h
  rcases Nat.eq_zero_or_pos (gW l) with h0 | h0
  · rw [h0] at h; simp at h
  · exact h0
theorem gCells_none {l : List UInt8} (h : boGoodM l = false) : gCells l = [] := by rw [gCells, if_neg (by rw [h]; decide)]

/-- The first zeros and the openings of a text. -/
def fstOf (l : List UInt8) : List Nat := firstsM (gCells l) (gW l)
def opsOf (l : List UInt8) : List (List Nat) := openingsM (gCells l) (gW l)
theorem fstOf_le (l : List UInt8) : (fstOf l).length ≤ 64 := Nat.le_trans (firstsM_le _ _) (gCells_le l)
theorem opsOf_length (l : List UInt8) : (opsOf l).length = (fstOf l).length := by rw [opsOf, openingsM, List.length_map]; rfl
theorem opsOf_row (l : List UInt8) : ∀ r ∈ opsOf l, r.length ≤ 64 := by
  intro r hr
  simp only [opsOf, openingsM, List.mem_map] at hr
  obtain ⟨z, _, rfl⟩ := hr
  exact Nat.le_trans (opM_le _ _ _) (gCells_le l)
theorem fstOf_none {l : List UInt8} (h : boGoodM l = false) : fstOf l = [] := by rw [fstOf, gCells_none h]; rfl
theorem opsOf_none {l : List UInt8} (h : boGoodM l = false) : opsOf l = [] := by rw [opsOf, gCells_none h]; rfl




end Go.Proofs.YtndmkbkmfonefadDoor
