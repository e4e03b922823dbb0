/- Walks: the sum of the numbers of the free cells, by the model and by the program. -/
import Derived.Test.YthlbplmghjaeoaeGN1
import Derived.Outline
namespace Go.Proofs.Ythlbplmghjaeoae
open Go.RowKit

def sumGo (cells : List UInt8) (W : Geo) (k : Nat) : Nat → Nat
  | 0 => 0
  | m + 1 => if cells.getD k 0 = 42 then sumGo cells W (k + 1) m else numM cells W k + sumGo cells W (k + 1) m
def sumOf (l : List UInt8) : Nat := sumGo (gCells l) (gW l) 0 (gCells l).length
theorem sumGo_le (cells : List UInt8) (W : Geo) : ∀ (m k : Nat), sumGo cells W k m ≤ m * cells.length
  | 0, _ => by simp [sumGo]
  | m + 1, k => by
    have h1 := sumGo_le cells W m (k + 1)
    have h2 := numM_le cells W k
    unfold sumGo
    rw [Nat.add_mul]
    split <;> omega
theorem numsGo_get (cells : List UInt8) (W : Geo) : ∀ (m k j : Nat) (h : j < (numsGo cells W k m).length), (numsGo cells W k m)[j] = numM cells W (k + j)
  | 0, _, _, h => by simp [numsGo] at h
  | m + 1, k, 0, _ => by simp [numsGo]
  | m + 1, k, j + 1, h => by
    simp only [numsGo, List.getElem_cons_succ]
    rw [numsGo_get cells W m (k + 1) j]
    congr 1
    omega
theorem numsM_get (cells : List UInt8) (W : Geo) (j : Nat) (h : j < (numsM cells W).length) : (numsM cells W)[j] = numM cells W j := by
  have e := numsGo_get cells W cells.length 0 j h
  rw [Nat.zero_add] at e
  exact e




end Go.Proofs.Ythlbplmghjaeoae
