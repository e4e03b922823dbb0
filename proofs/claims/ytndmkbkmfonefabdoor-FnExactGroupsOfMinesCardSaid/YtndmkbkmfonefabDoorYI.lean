/- Opening: the cells alone, by the program. -/
import Derived.Test.YtndmkbkmfonefabDoorYG
import Derived.Outline
namespace Go.Proofs.YtndmkbkmfonefabDoor
open Go.RowKit

/-- Is a cell free, and in none of the rows? -/
def aloneB (cells : List UInt8) (rss : List (List Nat)) (k : Nat) : Bool := freeB cells k && ((wiM rss k).length == 0)
def aloneM (cells : List UInt8) (W : Geo) : List Nat := filtM (aloneB cells (openingsM cells W)) cells.length
theorem aloneM_le (cells : List UInt8) (W : Geo) : (aloneM cells W).length ≤ cells.length := filtM_le _ _


/-- The cells alone of a text. -/
def aloneOf (l : List UInt8) : List Nat := aloneM (gCells l) (gW l)
theorem aloneOf_len (l : List UInt8) : (aloneOf l).length ≤ 1048576 := Nat.le_trans (aloneM_le _ _) (Nat.le_trans (gCells_le l) (by decide))
theorem aloneOf_none {l : List UInt8} (h : boGoodM l = false) : aloneOf l = [] := by rw [aloneOf, gCells_none h]; rfl

end Go.Proofs.YtndmkbkmfonefabDoor
