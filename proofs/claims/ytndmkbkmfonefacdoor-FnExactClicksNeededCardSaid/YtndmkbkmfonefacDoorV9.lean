/- The program's list of clicks as it is filled. -/
import Derived.Test.YtndmkbkmfonefacDoorV5
import Derived.Outline
namespace Go.Proofs.YtndmkbkmfonefacDoor
open Go.RowKit

/-- The list behind k clicks. -/
def lstK (xs : List Int) (k : Nat) : Array Value := ((ints (xs.take k) ++ List.replicate (64 - k) (Value.int .i64 0)) ++ [Value.int .i64 (xs.length : Int)]).toArray
theorem lstK_size {xs : List Int} {k : Nat} (hk : k ≤ xs.length) (h : xs.length ≤ 64) : (lstK xs k).size = 65 := by
  simp [lstK]; omega
theorem lstK_step {xs : List Int} {k : Nat} (hk : k < xs.length) (h : xs.length ≤ 64) : (lstK xs k).setIfInBounds k (.int .i64 xs[k]) = lstK xs (k + 1) := by
  have e1 : List.replicate (64 - k) (Value.int .i64 0) = Value.int .i64 0 :: List.replicate (64 - (k + 1)) (Value.int .i64 0) := by
    rw [show 64 - k = (64 - (k + 1)) + 1 by omega, List.replicate_succ]
  have e2 : ints (xs.take (k + 1)) = ints (xs.take k) ++ [Value.int .i64 xs[k]] := by
    rw [List.take_succ_eq_append_getElem hk]; unfold ints; rw [List.map_append]; rfl
  have e3 : (ints (xs.take k)).length = k := by simp; omega
  simp only [lstK, e1, e2, List.setIfInBounds_toArray]
  congr 1
  rw [List.append_assoc, List.append_assoc, List.append_assoc, List.set_append_right _ _ (by omega), e3, Nat.sub_self]
  rfl
theorem lstK_nats (cs : List Nat) : lstK (cs.map Int.ofNat) cs.length = lst cs := by
  unfold lstK lst
  rw [List.take_of_length_le (by simp), List.length_map]
  rfl

theorem built_count (n : Int) : Tryd.prog.built 63 [(1, .int .i64 n)] = some ((List.replicate 64 (Value.int .i64 0) ++ [Value.int .i64 n]).toArray) := by kernel_rfl
theorem lstK_zero (xs : List Int) : lstK xs 0 = (List.replicate 64 (Value.int .i64 0) ++ [Value.int .i64 (xs.length : Int)]).toArray := rfl
end Go.Proofs.YtndmkbkmfonefacDoor
