/- Counts by the model: the numbers of all cells as digits; boards with the same numbers. -/
import Derived.Test.YthlbplmghjaeoaeGJ5
import Derived.Test.YthlbplmghjaeoaeT9
import Derived.Outline
namespace Go.Proofs.Ythlbplmghjaeoae
open Go.RowKit

/-- The numbers of all cells as digits. -/
def nmT (cells : List UInt8) (W : Nat) : List UInt8 := (List.range cells.length).map fun i => digB (numM cells W i)
theorem nmT_length (cells : List UInt8) (W : Nat) : (nmT cells W).length = cells.length := by simp [nmT]
theorem nmT_snoc (cells : List UInt8) (W k : Nat) (h : k < cells.length) : (nmT cells W).take (k + 1) = (nmT cells W).take k ++ [digB (numM cells W k)] := by
  rw [List.take_succ_eq_append_getElem (by rw [nmT_length]; exact h)]
  simp [nmT]


/-- Is there a board of few cells? -/
def fwB (l : List UInt8) : Bool := boGoodM l && decide ((cellsM l).length ≤ 12)

/-- What SameNumbers hands back. -/
def snB (W : Nat) (own : List UInt8) (c : List UInt8) : Bool := decide (nmT c W = own)
def snL (cells : List UInt8) (W H k : Nat) : List (List UInt8) := (((allM cells.length (-1)).take k).filter (snB W (nmT cells W))).map fun c => textM c W H
def snM (l : List UInt8) : List (List UInt8) := if fwB l = true then snL (cellsM l) (headLen (splitB 47 l)) (splitB 47 l).length (allM (cellsM l).length (-1)).length else []
theorem snL_snoc (cells : List UInt8) (W H k : Nat) (h : k < (allM cells.length (-1)).length) : snL cells W H (k + 1) = snL cells W H k ++ (if snB W (nmT cells W) (allM cells.length (-1))[k] = true then [textM (allM cells.length (-1))[k] W H] else []) := by
  rw [snL, List.take_succ_eq_append_getElem h, List.filter_append, List.map_append, snL]
  by_cases q : snB W (nmT cells W) (allM cells.length (-1))[k] = true <;> simp [q]
theorem snL_le (cells : List UInt8) (W H k : Nat) : (snL cells W H k).length ≤ k := by
  rw [snL, List.length_map]
  refine Nat.le_trans (List.length_filter_le _ _) ?_
  rw [List.length_take]
  omega

end Go.Proofs.Ythlbplmghjaeoae
