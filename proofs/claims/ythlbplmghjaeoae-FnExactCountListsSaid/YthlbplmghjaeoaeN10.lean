/- Walks: the cells of a sign that have no mine beside them: the model's zeros and lonely mines, the program's. -/
import Derived.Test.YthlbplmghjaeoaeN9
import Derived.Test.YthlbplmghjaeoaeE
import Derived.Outline
namespace Go.Proofs.Ythlbplmghjaeoae
open Go.RowKit

/-- The cells of a sign with the number 0, from k on. -/
def zGo (cells : List UInt8) (W : Geo) (s : UInt8) (k : Nat) : Nat → List Nat
  | 0 => []
  | m + 1 => if cells.getD k 0 = s ∧ numM cells W k = 0 then k :: zGo cells W s (k + 1) m else zGo cells W s (k + 1) m
def zOf (s : UInt8) (l : List UInt8) : List Nat := zGo (gCells l) (gW l) s 0 (gCells l).length
theorem zGo_le (cells : List UInt8) (W : Geo) (s : UInt8) : ∀ (m k : Nat), (zGo cells W s k m).length ≤ m
  | 0, _ => by simp [zGo]
  | m + 1, k => by
    have := zGo_le cells W s m (k + 1)
    unfold zGo; split <;> simp <;> omega
theorem zOf_len (s : UInt8) (l : List UInt8) : (zOf s l).length ≤ 1048576 := by
  have := zGo_le (gCells l) (gW l) s (gCells l).length 0
  have := gCells_le l
  unfold zOf; omega

end Go.Proofs.Ythlbplmghjaeoae
