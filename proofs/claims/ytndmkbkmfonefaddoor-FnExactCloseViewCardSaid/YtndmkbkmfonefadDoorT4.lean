/- Walks: another sign in a cell, by the program and by the model. -/
import Derived.Test.YtndmkbkmfonefadDoorT3
import Derived.Outline
namespace Go.Proofs.YtndmkbkmfonefadDoor
open Go.RowKit

/-- The text with another sign in a cell: none if there is no such cell, or if its sign is another one than before. -/
def chOK (l : List UInt8) (c : Int) (b : UInt8) : Bool := cellOK l c && ((gCells l).getD c.toNat 0 == b)
def chM (l : List UInt8) (c : Int) (b x : UInt8) : List UInt8 := if chOK l c b = true then textM ((gCells l).set c.toNat x) (gW l) (gH l) else []
theorem chM_len (l : List UInt8) (c : Int) (b x : UInt8) : (chM l c b x).length ≤ 1048576 := by
  unfold chM
  split
  · have := textM_le ((gCells l).set c.toNat x) (gW l) (gH l) (gW_le l) (gH_le l)
    omega
  · simp



end Go.Proofs.YtndmkbkmfonefadDoor
