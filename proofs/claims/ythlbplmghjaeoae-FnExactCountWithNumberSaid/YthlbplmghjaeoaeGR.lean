/- CountBoards by the program. -/
import Derived.Test.YthlbplmghjaeoaeGGO
import Derived.Test.YthlbplmghjaeoaeGJ2
import Derived.Outline
namespace Go.Proofs.Ythlbplmghjaeoae
open Go.RowKit

/-- How many boards of n cells have k mines. -/
def bn (n k : Nat) : Nat := ((List.range (2 ^ n)).map (ctB n)).countP fun c => decide ((places 42 c).length = k)
theorem places_two (u : List UInt8) (s : UInt8) : (places 42 (u ++ [s])).length = (places 42 u).length + if s = 42 then 1 else 0 := by
  rw [places, places, places_count, places_count, List.countP_append]
  simp [List.countP_cons]
theorem bn_two (n : Nat) : (List.range (2 ^ (n + 1))).map (ctB (n + 1)) = ((List.range (2 ^ n)).map (ctB n)).flatMap fun u => [u ++ [42], u ++ [46]] := by
  rw [Nat.pow_succ, Nat.mul_comm, range_two, List.flatMap_map]
  congr 1
  funext m
  have t1 := ctB_two n m false
  have t2 := ctB_two n m true
  simp only [Bool.toNat_false, Bool.toNat_true, Nat.add_zero, if_true, if_false, Bool.false_eq_true] at t1 t2
  rw [t1, t2]
theorem count_two (k : Nat) : ∀ B : List (List UInt8), (B.flatMap fun u => [u ++ [42], u ++ [46]]).countP (fun c => decide ((places 42 c).length = k)) = B.countP (fun c => decide ((places 42 c).length + 1 = k)) + B.countP (fun c => decide ((places 42 c).length = k))
  | [] => rfl
  | u :: B => by
    rw [List.flatMap_cons, List.countP_append, count_two k B, List.countP_cons, List.countP_cons, List.countP_cons, List.countP_cons, List.countP_nil, places_two, places_two]
    simp
    omega
theorem bn_binom : ∀ n k, bn n k = binom n k
  | 0, 0 => by decide
  | 0, k + 1 => by
    have : bn 0 (k + 1) = 0 := by
      unfold bn
      simp [ctB, places, placesGo]
    rw [this]; rfl
  | n + 1, 0 => by
    rw [bn, bn_two, count_two]
    have h0 : ((List.range (2 ^ n)).map (ctB n)).countP (fun c => decide ((places 42 c).length + 1 = 0)) = 0 := List.countP_eq_zero.2 fun _ _ => by simp
    have h1 := bn_binom n 0
    rw [bn] at h1
    rw [h0, h1, Nat.zero_add]
    cases n <;> rfl
  | n + 1, k + 1 => by
    rw [bn, bn_two, count_two]
    have h1 := bn_binom n k
    have h2 := bn_binom n (k + 1)
    rw [bn] at h1 h2
    have h3 : ((List.range (2 ^ n)).map (ctB n)).countP (fun c => decide ((places 42 c).length + 1 = k + 1)) = ((List.range (2 ^ n)).map (ctB n)).countP (fun c => decide ((places 42 c).length = k)) := List.countP_congr fun c _ => by simp
    rw [h3, h1, h2]; rfl
end Go.Proofs.Ythlbplmghjaeoae
