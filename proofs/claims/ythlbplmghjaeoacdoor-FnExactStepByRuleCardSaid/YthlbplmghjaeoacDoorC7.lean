/- Notes: their unknown cells, the unknown neighbours of a cell, whether none is unknown: by the program and by the model. -/
import Derived.Test.YthlbplmghjaeoacDoorC6
import Derived.Test.YthlbplmghjaeoacDoorGN1
import Derived.Outline
namespace Go.Proofs.YthlbplmghjaeoacDoor
open Go.RowKit

/-- What the functions hand back. -/
def unkOf (l : List UInt8) : List Nat := hidM (grC noteSign l)
def dnOK (l : List UInt8) : Bool := gridM noteSign l && (maskM (hidM (grC noteSign l)) == 0)
def unOf (l : List UInt8) (c : Int) : List Nat := if inC (grC noteSign l).length c = true then nrS (grC noteSign l) (grW noteSign l) c.toNat 63 else []
theorem unkOf_len (l : List UInt8) : (unkOf l).length ≤ 1048576 := Nat.le_trans (filtM_le _ _) (Nat.le_trans (grC_le noteSign l) (by decide))
theorem unOf_len (l : List UInt8) (c : Int) : (unOf l c).length ≤ 1048576 := by
  unfold unOf
  split
  · exact Nat.le_trans (nrS_le _ _ _ _) (Nat.le_trans (grC_le noteSign l) (by decide))
  · simp
theorem mask_nil {cells : List UInt8} (h : cells.length ≤ 64) : maskM (hidM cells) = 0 ↔ (hidM cells).length = 0 := by
  rw [← bitsM_nil (hidM_mlt h), hidM_mask h, List.length_eq_zero_iff]
theorem grC_none {p : UInt8 → Bool} {l : List UInt8} (h : gridM p l = false) : grC p l = [] := by rw [grC, h]; rfl

/-- What is known of the library's variables. -/
structure HasLib (w : World) : Prop where
  max : HasMax w
  tab : HasTab w
theorem HasLib.later {w w' : World} (h : HasLib w) (hb : Below w.heap.size w w') : HasLib w' := ⟨h.max.later hb, h.tab.later hb⟩





end Go.Proofs.YthlbplmghjaeoacDoor
