/- Views: what the model calls a view, walked; sets of hidden cells by the program. -/
import Derived.Test.YthlbplmghjaeoaaDoorW1
import Derived.Test.YthlbplmghjaeoaaDoorY5
import Derived.Laws.BitsLemmas
import Derived.Outline
namespace Go.Proofs.YthlbplmghjaeoaaDoor
open Go.RowKit


/-- A set of hidden cells as the program keeps it: a bit a cell, the first one the highest. -/
def setM (p : Nat → Bool) (hs : List Nat) : Nat := hs.foldl (fun s c => 2 * s + if p c = true then 1 else 0) 0
theorem setM_snoc (p : Nat → Bool) (hs : List Nat) (c : Nat) : setM p (hs ++ [c]) = 2 * setM p hs + if p c = true then 1 else 0 := by
  simp [setM, List.foldl_append]
theorem setM_lt (p : Nat → Bool) (hs : List Nat) : setM p hs < 2 ^ hs.length := by
  rw [← List.reverse_reverse hs]
  generalize hs.reverse = r
  induction r with
  | nil => simp [setM]
  | cons c r ih =>
    rw [List.reverse_cons, setM_snoc, List.length_append, List.length_singleton, Nat.pow_succ]
    split <;> omega
theorem setM_step (p : Nat → Bool) (hs : List Nat) (k : Nat) (hk : k < hs.length) : setM p (hs.take (k + 1)) = 2 * setM p (hs.take k) + if p hs[k] = true then 1 else 0 := by
  rw [List.take_succ_eq_append_getElem hk, setM_snoc]
theorem setM_take (p : Nat → Bool) (hs : List Nat) (k : Nat) (hk : k ≤ 30) : setM p (hs.take k) < 1073741824 := by
  refine Nat.lt_of_lt_of_le (setM_lt p _) ?_
  exact Nat.le_trans (Nat.pow_le_pow_right (by decide) (show (hs.take k).length ≤ 30 by simp; omega)) (by decide)

theorem wrap_u64 (n : Int) (h₀ : 0 ≤ n) (h₁ : n < 2 ^ 64) : IntKind.u64.wrap n = n := by
  have : IntKind.u64.wrap n = n % 18446744073709551616 := by simp [IntKind.wrap, IntKind.bits, IntKind.signed]
  rw [this]; omega
theorem or_one (s : Nat) (h : s < 1073741824) : bits .or .u64 ((s : Int) * 2) 1 = (s : Int) * 2 + 1 :=
  bits_join .u64 64 (by decide) wrap_u64 1 _ _ (by omega) (by omega) (by omega) (by omega) (by omega) (by omega)

end Go.Proofs.YthlbplmghjaeoaaDoor
