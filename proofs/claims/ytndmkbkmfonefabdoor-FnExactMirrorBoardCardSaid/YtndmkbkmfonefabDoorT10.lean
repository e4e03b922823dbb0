/- Walks: the picture of a board, by the model and by the program. -/
import Derived.Test.YtndmkbkmfonefabDoorT9
import Derived.Test.YtndmkbkmfonefabDoorT8
import Derived.Test.YtndmkbkmfonefabDoorU1
import Derived.Deep.RegionHeld3
import Derived.Outline
namespace Go.Proofs.YtndmkbkmfonefabDoor
open Go.RowKit

/-- The picture when the cells ahead of k are told. -/
def picK (cells : List UInt8) (V : Geo) (k : Nat) : List UInt8 := picGo cells V 0 k ++ List.replicate (cells.length - k) 46
theorem picK_length {cells : List UInt8} {V : Geo} {k : Nat} (hk : k ≤ cells.length) : (picK cells V k).length = cells.length := by simp [picK]; omega
theorem picK_set {cells : List UInt8} {V : Geo} {k : Nat} (hk : k < cells.length) : (picK cells V k).set k (picB cells V k) = picK cells V (k + 1) := by
  unfold picK
  rw [show cells.length - k = (cells.length - (k + 1)) + 1 by omega, List.replicate_succ, List.set_append_right _ _ (by simp), picGo_snoc]
  simp only [picGo_length, Nat.sub_self, List.set_cons_zero, Nat.zero_add, List.append_assoc, List.cons_append, List.nil_append]
theorem picK_all (cells : List UInt8) (V : Geo) : picK cells V cells.length = picGo cells V 0 cells.length := by simp [picK]

def piM (l : List UInt8) : List UInt8 := textM (picGo (gCells l) (gW l) 0 (gCells l).length) (gW l) (gH l)
theorem piM_none {l : List UInt8} (h : ¬ boGoodM l = true) : piM l = [] := by
  unfold piM gH
  rw [if_neg h]
  rfl


/-- What lies in a cell. -/
def cellOf (w : World) (b o : Nat) : Value := (w.cell? ⟨b, o, none⟩).getD (.bool false)
theorem cellOf_some {w : World} {b o : Nat} {v : Value} (h : w.cell? ⟨b, o, none⟩ = some v) : w.cell? ⟨b, o, none⟩ = some (cellOf w b o) := by
  rw [cellOf, h]; rfl


end Go.Proofs.YtndmkbkmfonefabDoor
