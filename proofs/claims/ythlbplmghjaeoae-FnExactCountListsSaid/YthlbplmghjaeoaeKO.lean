/- Listed boards by the program: the board of a grid. -/
import Derived.Test.YthlbplmghjaeoaeKE
import Derived.Outline
namespace Go.Proofs.Ythlbplmghjaeoae
open Go.RowKit

/-- A board in a box. -/
def BoxB (w : World) (b : Nat) (y : LB) : Prop := w.rangeAt b 0 (encB y) ∧ w.there b 0 24
theorem BoxB.lt {w : World} {b : Nat} {y : LB} (h : BoxB w b y) : b < w.heap.size := by
  have := World.block_lt_of_cell? _ _ (h.1 0 _ (encB_get y 0 (by decide)))
  simpa using this
theorem BoxB.heap {w w' : World} {b : Nat} {y : LB} (h : BoxB w b y) (he : w'.heap[b]? = w.heap[b]?) : BoxB w' b y :=
  ⟨range_heap h.1 he, fun j hj => by
    rw [World.cell?_of_block (a := ⟨b, 0 + j, none⟩) he, World.frozen?_of_block (a := ⟨b, 0 + j, none⟩) he]; exact h.2 j hj⟩
theorem BoxB.later {w w' : World} {b : Nat} {y : LB} (h : BoxB w b y) (hb : Below w.heap.size w w') : BoxB w' b y := h.heap (hb.block b h.lt)
theorem BoxB.of {w : World} {b : Nat} {y : LB} {t : TypeId} (h : w.heap[b]? = some (.cells (encB y).toArray t (0, 0))) : BoxB w b y := ⟨range24 h, there24 h (by rw [encB_size])⟩
theorem BoxB.set {w : World} {b : Nat} {y : LB} (h : BoxB w b y) (z : LB) : BoxB (w.setCells b 0 (encB z)) b z :=
  ⟨World.rangeAt_setCells_same w b 0 (encB z) (by rw [encB_len]; exact h.2), World.there_setCells h.2 b 0 (encB z)⟩
theorem heap_setCells {g b : Nat} (hne : b ≠ g) : ∀ (vs : List Value) (o : Nat) (w : World), (w.setCells g o vs).heap[b]? = w.heap[b]?
  | [], _, _ => rfl
  | v :: r, o, w => by rw [World.setCells, heap_setCells hne r, away_setK hne]


end Go.Proofs.Ythlbplmghjaeoae
