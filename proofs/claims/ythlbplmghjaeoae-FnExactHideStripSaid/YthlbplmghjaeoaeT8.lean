/- Walks: mines in the free cells and no others, by the model and by the program. -/
import Derived.Test.YthlbplmghjaeoaeT7
import Derived.Test.YthlbplmghjaeoaeE
import Derived.Deep.RegionHeld3
import Derived.Outline
namespace Go.Proofs.Ythlbplmghjaeoae
open Go.RowKit

theorem block_other {w : World} {g b : Nat} (h : b ≠ g) (j : Nat) (v : Value) : (w.setCell ⟨g, j, none⟩ v).heap[b]? = w.heap[b]? := by
  simp [World.setCell, Array.getElem?_modify, Ne.symm h]
theorem map_at (f : UInt8 → UInt8) (cells : List UInt8) (k : Nat) (h : k < ((cells.take k).map f ++ cells.drop k).length) (hlt : k < cells.length) : ((cells.take k).map f ++ cells.drop k)[k] = cells[k] := by
  rw [List.getElem_append_right (by simp; omega)]
  simp only [List.getElem_drop, List.length_map, List.length_take]
  congr 1
  omega
theorem map_step (f : UInt8 → UInt8) (cells : List UInt8) (k : Nat) (hlt : k < cells.length) : ((cells.take k).map f ++ cells.drop k).set k (f cells[k]) = (cells.take (k + 1)).map f ++ cells.drop (k + 1) := by
  rw [List.drop_eq_getElem_cons hlt, List.set_append_right _ _ (by simp; omega), List.take_succ_eq_append_getElem hlt, List.map_append]
  have e : k - ((cells.take k).map f).length = 0 := by simp; omega
  rw [e]
  simp only [List.set_cons_zero, List.map_cons, List.map_nil, List.append_assoc, List.cons_append, List.nil_append]
def otM (l : List UInt8) : List UInt8 := textM ((gCells l).map othB) (gW l) (gH l)
theorem otM_none {l : List UInt8} (h : ¬ boGoodM l = true) : otM l = [] := by
  unfold otM gH
  rw [if_neg h]
  rfl



end Go.Proofs.Ythlbplmghjaeoae
