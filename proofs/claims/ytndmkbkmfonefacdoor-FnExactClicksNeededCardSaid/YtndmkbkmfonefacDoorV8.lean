/- Cells open behind clicks, by the model: the functions (whether all are open). -/
import Derived.Test.YtndmkbkmfonefacDoorV6
import Derived.Outline
namespace Go.Proofs.YtndmkbkmfonefacDoor
open Go.RowKit

def aaOf (l : List UInt8) (xs : List Int) : Bool := clkOK l xs && decide ((oaOf l xs).length = (places 46 (gCells l)).length)
theorem int_beq_len (x y : Nat) : decide (x = y) = ((x : Int) == (y : Int)) := by
  by_cases h : x = y
  · simp [h]
  · have : ¬ (x : Int) = (y : Int) := by omega
    rw [decide_eq_false h]; exact (beq_eq_false_iff_ne.2 this).symm

end Go.Proofs.YtndmkbkmfonefacDoor
