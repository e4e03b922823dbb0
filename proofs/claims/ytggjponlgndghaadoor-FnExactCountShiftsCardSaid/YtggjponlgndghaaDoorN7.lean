/- Walks: NeighboursOf, NumberAt and NumbersOf, by the model and by the program. -/
import Derived.Test.YtggjponlgndghaaDoorGN1
import Derived.Outline
namespace Go.Proofs.YtggjponlgndghaaDoor
open Go.RowKit

def nbOf (l : List UInt8) (c : Int) : List Nat := if cellOK l c = true then nearM (gW l) (gCells l).length c.toNat else []
def numOf (l : List UInt8) (c : Int) : Nat := if cellOK l c = true then numM (gCells l) (gW l) c.toNat else 0
def numsOf (l : List UInt8) : List Nat := numsM (gCells l) (gW l)
theorem nbOf_len (l : List UInt8) (c : Int) : (nbOf l c).length ≤ 1048576 := by
  unfold nbOf
  by_cases h : cellOK l c = true
  · rw [if_pos h]; have := nearM_le (gW l) (gCells l).length c.toNat; have := gCells_le l; omega
  · rw [if_neg h]; simp
theorem numsOf_len (l : List UInt8) : (numsOf l).length ≤ 1048576 := by
  rw [numsOf, numsM_length]; have := gCells_le l; omega




end Go.Proofs.YtggjponlgndghaaDoor
