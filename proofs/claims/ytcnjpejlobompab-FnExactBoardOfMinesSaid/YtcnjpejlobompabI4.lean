/- Walks: boards, sizes and mines as the program tells them. -/
import Derived.Test.YtcnjpejlobompabI3
import Derived.Deep.QuietTactic
import Derived.BigQuiet
import Derived.WalkSmall
import Derived.Outline
namespace Go.Proofs.Ytcnjpejlobompab
open Go.RowKit

/-- The cells of the grid that the program reads: none if there is no board. -/
def gCells (l : List UInt8) : List UInt8 := if boGoodM l = true then cellsM l else []
theorem gCells_le (l : List UInt8) : (gCells l).length ≤ 64 := by
  unfold gCells
  by_cases h : boGoodM l = true
  · obtain ⟨_, _, f3, f4, _, _, f7, _⟩ := readM_facts h
    rw [if_pos h, f7]
    exact Nat.mul_le_mul f3 f4
  · rw [if_neg h]; simp
theorem gW_le (l : List UInt8) : gW l ≤ 8 := by
  unfold gW
  by_cases h : boGoodM l = true
  · obtain ⟨_, _, f3, _, _, f6, _⟩ := readM_facts h
    rw [if_pos h, f6]; exact f3
  · rw [if_neg h]; omega
theorem gH_le (l : List UInt8) : gH l ≤ 8 := by
  unfold gH
  by_cases h : boGoodM l = true
  · obtain ⟨_, _, _, f4, _, f6, _⟩ := readM_facts h
    rw [if_pos h, f6]; exact f4
  · rw [if_neg h]; omega
theorem gCells_len (l : List UInt8) : (gCells l).length = gW l * gH l := by
  unfold gCells gW gH
  by_cases h : boGoodM l = true
  · obtain ⟨_, _, _, _, _, f6, f7, _⟩ := readM_facts h
    rw [if_pos h, if_pos h, if_pos h, f7, f6]
  · rw [if_neg h, if_neg h]; simp

theorem byts_at {w : World} {a : Option Addr} {xs : List UInt8} (h : At w a (byts xs)) (k : Nat) (hk : k < xs.length) : ∃ b off, a = some ⟨b, off, none⟩ ∧ w.cell? ⟨b, off + k, none⟩ = some (.int .u8 (xs[k].toNat : Int)) := by
  obtain ⟨b, off, h1, h2⟩ := h k (by simpa using hk)
  exact ⟨b, off, h1, by rw [h2]; simp [byts]⟩




end Go.Proofs.Ytcnjpejlobompab
