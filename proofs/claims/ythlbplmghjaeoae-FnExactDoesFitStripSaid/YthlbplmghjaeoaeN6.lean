/- Walks: neighbours, the number of a cell and all numbers, by the model and by the program. -/
import Derived.Test.YthlbplmghjaeoaeN5
import Derived.Test.YthlbplmghjaeoaeE
import Derived.Outline
namespace Go.Proofs.Ythlbplmghjaeoae
open Go.RowKit

/-- Whether there are a board and a cell. -/
def cellOK (l : List UInt8) (c : Int) : Bool := boGoodM l && inB c 0 ((cellsM l).length - 1)
theorem cellOK_yes {l : List UInt8} {c : Int} (h : cellOK l c = true) : boGoodM l = true ∧ ∃ k : Nat, c = k ∧ k < (cellsM l).length := by
  simp [cellOK, inB] at h
  exact ⟨h.1, c.toNat, by omega, by omega⟩
theorem cells_le72 {l : List UInt8} (h : boGoodM l = true) : (cellsM l).length ≤ 64 := (Brd.of h).n64


theorem cellOK_in (l : List UInt8) (c : Int) : cellOK l c = inC (gCells l).length c := by
  unfold cellOK gCells inC inB
  by_cases h : boGoodM l = true
  · rw [if_pos h, h]
    have e : decide (c ≤ ((cellsM l).length : Int) - 1) = decide (c < ((cellsM l).length : Int)) := by
      apply decide_eq_decide.2; omega
    rw [e]; simp
  · have h' : boGoodM l = false := by simpa using h
    rw [h']
    by_cases q : 0 ≤ c
    · have : ¬ c < 0 := by omega
      simp [this]
    · simp [q]

end Go.Proofs.Ythlbplmghjaeoae
