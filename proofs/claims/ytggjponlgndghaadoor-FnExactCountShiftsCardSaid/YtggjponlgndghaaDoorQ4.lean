/- Groups of mines: the spots that have a mine. -/
import Derived.Test.YtggjponlgndghaaDoorQ3
import Derived.Test.YtggjponlgndghaaDoorGI4
import Derived.Outline
namespace Go.Proofs.YtggjponlgndghaaDoor
open Go.RowKit

def spOf (W k : Nat) : Nat × Nat := (k / W, k % W)
/-- The mines, as cells. -/
def minM (cells : List UInt8) : List Nat := places 42 cells
theorem minM_lt {cells : List UInt8} {k : Nat} (h : k ∈ minM cells) : k < cells.length := by
  unfold minM places at h
  rw [mem_placesGo] at h
  obtain ⟨_, h⟩ := h
  obtain ⟨hx, _⟩ := List.getElem?_eq_some_iff.1 h
  omega

theorem Spots.nocells {w : World} {b n : Nat} {L : List (Nat × Nat)} (h : Spots w b n L) : ∀ cur e f, w.heap[b]? ≠ some (.cells cur e f) := by
  intro cur e f hc
  obtain ⟨D, ⟨es, clock, hb, _⟩, _⟩ := h
  rw [hb] at hc
  cases hc

end Go.Proofs.YtggjponlgndghaaDoor
