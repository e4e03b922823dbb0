/- What is seen of a board with some cells open: by the program. -/
import Derived.Test.YteajhjiibenenaaDoorT9
import Derived.Test.YteajhjiibenenaaDoorU1
import Derived.Test.YteajhjiibenenaaDoorVL
import Derived.Outline
namespace Go.Proofs.YteajhjiibenenaaDoor
open Go.RowKit

/-- The sign that is seen of a cell. -/
def seeB (cells : List UInt8) (W : Nat) (op : Nat → Bool) (k : Nat) : UInt8 := if op k = true then digB (numM cells W k) else 63
def seeM (cells : List UInt8) (W : Nat) (op : Nat → Bool) : List UInt8 := (List.range cells.length).map (seeB cells W op)
/-- Behind k rounds: the first k are written. -/
def seeK (cells : List UInt8) (W : Nat) (op : Nat → Bool) (k : Nat) : List UInt8 := (List.range k).map (seeB cells W op) ++ List.replicate (cells.length - k) 46
theorem seeK_length {cells : List UInt8} {W : Nat} {op : Nat → Bool} {k : Nat} (hk : k ≤ cells.length) : (seeK cells W op k).length = cells.length := by simp [seeK]; omega
theorem seeK_set {cells : List UInt8} {W : Nat} {op : Nat → Bool} {k : Nat} (hk : k < cells.length) : (seeK cells W op k).set k (seeB cells W op k) = seeK cells W op (k + 1) := by
  have e : List.replicate (cells.length - k) (46 : UInt8) = 46 :: List.replicate (cells.length - (k + 1)) 46 := by
    rw [show cells.length - k = (cells.length - (k + 1)) + 1 by omega, List.replicate_succ]
  rw [seeK, seeK, e, List.set_append_right _ _ (by simp), List.range_succ, List.map_append]
  simp
theorem seeK_all (cells : List UInt8) (W : Nat) (op : Nat → Bool) : seeK cells W op cells.length = seeM cells W op := by simp [seeK, seeM]
@[simp] theorem seeM_length (cells : List UInt8) (W : Nat) (op : Nat → Bool) : (seeM cells W op).length = cells.length := by simp [seeM]

theorem blockAwayW {w : World} {g b : Nat} (h : b ≠ g) (j : Nat) (v : Value) : (w.setCell ⟨g, j, none⟩ v).heap[b]? = w.heap[b]? := by
  simp [World.setCell, Array.getElem?_modify, Ne.symm h]
end Go.Proofs.YteajhjiibenenaaDoor
