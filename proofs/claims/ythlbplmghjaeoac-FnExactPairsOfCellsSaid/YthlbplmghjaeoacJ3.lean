/- Counts by the model: a board by its number. -/
import Derived.Test.YthlbplmghjaeoacJ2
import Derived.Lib.RabinKarpLaws
import Derived.Outline
namespace Go.Proofs.Ythlbplmghjaeoac
open Go.RowKit

/-- The cells of the board with a number. -/
def ctB (n m : Nat) : List UInt8 := (List.range n).map fun i => if m.testBit (n - 1 - i) = true then 46 else 42
theorem ctB_length (n m : Nat) : (ctB n m).length = n := by simp [ctB]
theorem ctB_snoc (n m j : Nat) (h : j < n) : (ctB n m).take (j + 1) = (ctB n m).take j ++ [if m.testBit (n - 1 - j) = true then 46 else 42] := by
  rw [List.take_succ_eq_append_getElem (by rw [ctB_length]; exact h)]
  simp [ctB]

theorem bit_zero (m q : Nat) (hm : m < 4096) : (bits BinOp.and IntKind.i64 ((m : Int) / 2 ^ q) 1 == 0) = !m.testBit q := by
  have e : (m : Int) / 2 ^ q = ((m / 2 ^ q : Nat) : Int) := by simp
  have h : m / 2 ^ q ≤ m := Nat.div_le_self _ _
  rw [e, and_one _ (by omega), Nat.testBit_eq_decide_div_mod_eq]
  have h2 : m / 2 ^ q % 2 = 0 ∨ m / 2 ^ q % 2 = 1 := by omega
  rcases h2 with h2 | h2 <;> rw [h2] <;> rfl

end Go.Proofs.Ythlbplmghjaeoac
