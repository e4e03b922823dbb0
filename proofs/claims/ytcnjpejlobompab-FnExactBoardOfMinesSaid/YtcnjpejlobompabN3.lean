/- Walks: the program's list of a cell's neighbours. -/
import Derived.Test.YtcnjpejlobompabN2
import Derived.Deep.RegionHeld3
import Derived.Outline
namespace Go.Proofs.Ytcnjpejlobompab
open Go.RowKit

/-- Whether the cell o is a neighbour of the cell c on a board of a width. -/
def nbW (W c o : Nat) : Bool := areNb (o / W) (o % W) (c / W) (c % W)
def nearGo (W c : Nat) (k : Nat) : Nat → List Nat
  | 0 => []
  | m + 1 => if nbW W c k = true then k :: nearGo W c (k + 1) m else nearGo W c (k + 1) m
def nearM (W n c : Nat) : List Nat := nearGo W c 0 n
theorem nearGo_le (W c : Nat) : ∀ (m k : Nat), (nearGo W c k m).length ≤ m
  | 0, _ => by simp [nearGo]
  | m + 1, k => by
    have := nearGo_le W c m (k + 1)
    unfold nearGo; split <;> simp <;> omega

theorem kept1 {w w' : World} {b o : Nat} {v : Value} (h : w.cell? ⟨b, o, none⟩ = some v) (hb : Below w.heap.size w w') : w'.cell? ⟨b, o, none⟩ = some v := by
  rw [hb.cell (p := ⟨b, o, none⟩) (World.block_lt_of_cell? w _ h)]; exact h

theorem ofDrew {B : Nat} {w w' : World} (h : Below B w.drew w') : Below B w w' := ⟨h.os, h.tape, h.output, h.size, h.block⟩

end Go.Proofs.Ytcnjpejlobompab
