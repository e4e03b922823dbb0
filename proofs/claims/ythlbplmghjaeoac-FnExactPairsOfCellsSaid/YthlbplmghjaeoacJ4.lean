/- Counts by the model: all boards of so many cells. -/
import Derived.Test.YthlbplmghjaeoacJ3
import Derived.Test.YthlbplmghjaeoacS4
import Derived.Outline
namespace Go.Proofs.Ythlbplmghjaeoac
open Go.RowKit

/-- Has a board so many mines, where any number may be told? -/
def mnB (mines : Int) (cells : List UInt8) : Bool := decide (mines < 0) || decide (((places 42 cells).length : Int) = mines)
/-- The first boards of so many cells, in order, and all. -/
def allK (n : Nat) (mines : Int) (k : Nat) : List (List UInt8) := ((List.range k).map (ctB n)).filter (mnB mines)
def allM (n : Nat) (mines : Int) : List (List UInt8) := allK n mines (2 ^ n)
theorem allK_snoc (n : Nat) (mines : Int) (k : Nat) : allK n mines (k + 1) = allK n mines k ++ (if mnB mines (ctB n k) = true then [ctB n k] else []) := by
  rw [allK, List.range_succ, List.map_append, List.filter_append, allK]
  simp [List.filter_cons]
theorem allK_le (n : Nat) (mines : Int) (k : Nat) : (allK n mines k).length ≤ k := by
  refine Nat.le_trans (List.length_filter_le _ _) ?_
  simp
theorem pow12 {n : Nat} (h : n ≤ 12) : 1 ≤ 2 ^ n ∧ 2 ^ n ≤ 4096 := ⟨Nat.one_le_two_pow, Nat.pow_le_pow_right (by decide) h⟩
theorem allM_le (n : Nat) (mines : Int) (hn : n ≤ 12) : (allM n mines).length ≤ 4096 := Nat.le_trans (allK_le _ _ _) (pow12 hn).2
theorem allM_len {n : Nat} {mines : Int} {c : List UInt8} (h : c ∈ allM n mines) : c.length = n := by
  obtain ⟨h1, _⟩ := List.mem_filter.1 h
  obtain ⟨m, _, rfl⟩ := List.mem_map.1 h1
  exact ctB_length n m

end Go.Proofs.Ythlbplmghjaeoac
