/- Notes: a step by the rules, by the program. -/
import Derived.Test.YthlbplmghjaeoabDoorCT
import Derived.Outline
namespace Go.Proofs.YthlbplmghjaeoabDoor
open Go.RowKit

/-- What a step finds; the cells behind it. -/
def stF (cells : List UInt8) (W : Nat) (p : Bool) : List Nat × List Nat :=
  if (!fnd (fstM cells W [] 0 (opens cells)).2 && p) = true then (fstP cells W (opens cells) (opens cells)).2.2 else (fstM cells W [] 0 (opens cells)).2
def apM (cells : List UInt8) (f : List Nat × List Nat) : List UInt8 := noteL (noteL cells f.1 42) f.2 46
theorem stF_cel (cells : List UInt8) (W : Nat) (p : Bool) : Cel cells.length (stF cells W p).1 ∧ Cel cells.length (stF cells W p).2 := by
  unfold stF
  split
  · exact fstP_cel _ _ _ _
  · exact fst_cel _ _ _ _ _
theorem apM_length (cells : List UInt8) (f : List Nat × List Nat) : (apM cells f).length = cells.length := by rw [apM, noteL_length, noteL_length]

end Go.Proofs.YthlbplmghjaeoabDoor
