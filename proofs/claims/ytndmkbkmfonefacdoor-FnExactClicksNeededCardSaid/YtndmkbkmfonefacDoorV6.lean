/- Cells open behind clicks, by the model: the functions. -/
import Derived.Test.YtndmkbkmfonefacDoorV3
import Derived.Test.YtndmkbkmfonefacDoorYF
import Derived.Outline
namespace Go.Proofs.YtndmkbkmfonefacDoor
open Go.RowKit

/-- Clicks as cells. -/
def csOf (xs : List Int) : List Nat := xs.map Int.toNat
@[simp] theorem csOf_length (xs : List Int) : (csOf xs).length = xs.length := by simp [csOf]
theorem clk_cells {l : List UInt8} {xs : List Int} (h : clkOK l xs = true) : ints xs = nats (csOf xs) ∧ (∀ c ∈ csOf xs, c < (gCells l).length ∧ (gCells l).getD c 0 = 46) := by
  obtain ⟨hg, _, hf⟩ := clk_yes h
  have key : ∀ x ∈ xs, ((x.toNat : Nat) : Int) = x ∧ x.toNat < (gCells l).length ∧ (gCells l).getD x.toNat 0 = 46 := by
    intro x hx
    obtain ⟨_, k, rfl, hk, hne⟩ := freeOK_yes (hf x hx)
    refine ⟨rfl, hk, ?_⟩
    have hgc : gCells l = cellsM l := by rw [gCells, if_pos hg]
    have hs := cells_sign hg ((gCells l).getD k 0) (by
      rw [← hgc, List.getD_eq_getElem?_getD, List.getElem?_eq_getElem hk]
      exact List.getElem_mem hk)
    rcases hs with h | h
    · exact h
    · exact absurd h hne
  refine ⟨?_, ?_⟩
  · simp only [nats, ints, csOf, List.map_map]
    apply List.map_congr_left
    intro x hx
    simp [(key x hx).1]
  · intro c hc
    obtain ⟨x, hx, rfl⟩ := List.mem_map.1 hc
    exact (key x hx).2
def oaOf (l : List UInt8) (xs : List Int) : List Nat := if clkOK l xs = true then aftM (gCells l) (gW l) (csOf xs) else []
def ndOf (l : List UInt8) (xs : List Int) : List Nat := if clkOK l xs = true then needM (gCells l) (gW l) (csOf xs) else []

end Go.Proofs.YtndmkbkmfonefacDoor
