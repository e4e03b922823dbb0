/- Counts by the model: the sum of numbers of the cells of a board. -/
import Derived.Test.YthlbplmghjaeoaaDoorGJ2
import Derived.Test.YthlbplmghjaeoaaDoorN9
import Derived.Outline
namespace Go.Proofs.YthlbplmghjaeoaaDoor
open Go.RowKit

/-- Signs of a board alone. -/
def Brd2 (cells : List UInt8) : Prop := ∀ c ∈ cells, c = 46 ∨ c = 42
theorem Brd2.asc {cells : List UInt8} (h : Brd2 cells) {k : Nat} (hk : k < cells.length) : cells[k].toNat < 128 := by
  rcases h _ (List.getElem_mem hk) with e | e <;> rw [e] <;> decide
theorem ctB_brd (n m : Nat) : Brd2 (ctB n m) := by
  intro c hc
  obtain ⟨i, _, rfl⟩ := List.mem_map.1 hc
  split
  · exact .inl rfl
  · exact .inr rfl
theorem allM_brd {n : Nat} {mines : Int} {c : List UInt8} (h : c ∈ allM n mines) : Brd2 c := by
  obtain ⟨h1, _⟩ := List.mem_filter.1 h
  obtain ⟨m, _, rfl⟩ := List.mem_map.1 h1
  exact ctB_brd n m

end Go.Proofs.YthlbplmghjaeoaaDoor
