/- Sets of hidden cells: how many they have; two sets at once. -/
import Derived.Test.YthlbplmghjaeoaaDoorW2
import Derived.Outline
namespace Go.Proofs.YthlbplmghjaeoaaDoor
open Go.RowKit

def sA (x : Int) : Int := IntKind.u64.wrap (bits .and .u64 (x / 2) 6148914691236517205 + bits .and .u64 x 6148914691236517205)
def sB (x : Int) : Int := IntKind.u64.wrap (bits .and .u64 (x / 4) 3689348814741910323 + bits .and .u64 x 3689348814741910323)
def sC (x : Int) : Int := bits .and .u64 (IntKind.u64.wrap (x / 16 + x)) 1085102592571150095
def sD (k : Int) (x : Int) : Int := IntKind.u64.wrap (x + x / k)
/-- What the library's body reckons. -/
def popX (x : Int) : Int := bits .and .i64 (wrap64 (sD 4294967296 (sD 65536 (sD 256 (sC (sB (sA x))))))) 127
/-- The same on natural numbers. -/
def nAB (k m x : Nat) : Nat := (x / k &&& m) + (x &&& m)
def nC (x : Nat) : Nat := (x / 16 + x) &&& 1085102592571150095
def nD (k x : Nat) : Nat := x + x / k
def popN (x : Nat) : Nat := nD 4294967296 (nD 65536 (nD 256 (nC (nAB 4 3689348814741910323 (nAB 2 6148914691236517205 x))))) &&& 127
/-- How many of the fourteen lowest bits are set. -/
def pop14 (x : Nat) : Nat := x % 2 + x / 2 % 2 + x / 4 % 2 + x / 8 % 2 + x / 16 % 2 + x / 32 % 2 + x / 64 % 2 + x / 128 % 2 + x / 256 % 2 + x / 512 % 2 + x / 1024 % 2 + x / 2048 % 2 + x / 4096 % 2 + x / 8192 % 2
theorem pop_all : ((List.range 128).all fun a => (List.range 128).all fun b => Nat.beq (popN (a * 128 + b)) (pop14 (a * 128 + b))) = true := by decide +kernel
theorem popN_eq (x : Nat) (h : x < 16384) : popN x = pop14 x := by
  have q := List.all_eq_true.1 (List.all_eq_true.1 pop_all (x / 128) (List.mem_range.2 (by omega))) (x % 128) (List.mem_range.2 (by omega))
  rw [Nat.div_add_mod' x 128] at q
  exact Nat.eq_of_beq_eq_true q
theorem u64_and (a b : Nat) (ha : a < 18446744073709551616) (hb : b < 18446744073709551616) : bits .and .u64 (a : Int) (b : Int) = ((a &&& b : Nat) : Int) :=
  (bits_nat .u64 64 (by decide) wrap_u64 a b ha hb).1
theorem nAB_le (k m x : Nat) : nAB k m x ≤ 2 * x := by
  have h1 : x / k &&& m ≤ x / k := Nat.and_le_left
  have h2 : x &&& m ≤ x := Nat.and_le_left
  have h3 := Nat.div_le_self x k
  unfold nAB; omega
theorem nC_le (x : Nat) : nC x ≤ 2 * x := by
  have h1 : (x / 16 + x) &&& 1085102592571150095 ≤ x / 16 + x := Nat.and_le_left
  unfold nC; omega
theorem nD_le (k x : Nat) : nD k x ≤ 2 * x := by
  have := Nat.div_le_self x k
  unfold nD; omega
theorem sA_nat (x : Nat) (h : x < 1048576) : sA (x : Int) = (nAB 2 6148914691236517205 x : Nat) := by
  have e := u64_and (x / 2) 6148914691236517205 (by omega) (by omega)
  have e2 := u64_and x 6148914691236517205 (by omega) (by omega)
  have hl := nAB_le 2 6148914691236517205 x
  have e3 : ((x : Int) / 2) = ((x / 2 : Nat) : Int) := rfl
  have e4 : (6148914691236517205 : Int) = ((6148914691236517205 : Nat) : Int) := rfl
  rw [sA, e3, e4, e, e2]
  unfold nAB at hl ⊢
  rw [← Int.natCast_add]
  exact wrap_u64 _ (by omega) (by omega)
theorem sB_nat (x : Nat) (h : x < 1048576) : sB (x : Int) = (nAB 4 3689348814741910323 x : Nat) := by
  have e := u64_and (x / 4) 3689348814741910323 (by omega) (by omega)
  have e2 := u64_and x 3689348814741910323 (by omega) (by omega)
  have hl := nAB_le 4 3689348814741910323 x
  have e3 : ((x : Int) / 4) = ((x / 4 : Nat) : Int) := rfl
  have e4 : (3689348814741910323 : Int) = ((3689348814741910323 : Nat) : Int) := rfl
  rw [sB, e3, e4, e, e2]
  unfold nAB at hl ⊢
  rw [← Int.natCast_add]
  exact wrap_u64 _ (by omega) (by omega)
theorem sC_nat (x : Nat) (h : x < 1048576) : sC (x : Int) = (nC x : Nat) := by
  have e3 : ((x : Int) / 16) = ((x / 16 : Nat) : Int) := rfl
  have e4 : (1085102592571150095 : Int) = ((1085102592571150095 : Nat) : Int) := rfl
  rw [sC, e3, ← Int.natCast_add, wrap_u64 _ (by omega) (by omega), e4, u64_and _ _ (by omega) (by omega)]
  rfl
theorem sD_nat (k x : Nat) (h : x < 1048576) : sD (k : Int) (x : Int) = (nD k x : Nat) := by
  have e3 : ((x : Int) / (k : Int)) = ((x / k : Nat) : Int) := rfl
  have hd := Nat.div_le_self x k
  unfold nD
  rw [sD, e3]
  clear e3
  generalize x / k = d at *
  rw [← Int.natCast_add]
  exact wrap_u64 _ (by omega) (by omega)
theorem pop_eq (x : Nat) (h : x < 16384) : popX (x : Int) = (pop14 x : Int) := by
  have h1 := nAB_le 2 6148914691236517205 x
  have h2 := nAB_le 4 3689348814741910323 (nAB 2 6148914691236517205 x)
  have h3 := nC_le (nAB 4 3689348814741910323 (nAB 2 6148914691236517205 x))
  have h4 := nD_le 256 (nC (nAB 4 3689348814741910323 (nAB 2 6148914691236517205 x)))
  have h5 := nD_le 65536 (nD 256 (nC (nAB 4 3689348814741910323 (nAB 2 6148914691236517205 x))))
  have h6 := nD_le 4294967296 (nD 65536 (nD 256 (nC (nAB 4 3689348814741910323 (nAB 2 6148914691236517205 x)))))
  have e5 : ∀ n : Nat, n < 1048576 → wrap64 (n : Int) = (n : Int) := fun n hn => by unfold wrap64; omega
  have e6 : ∀ n : Nat, n < 1048576 → bits .and .i64 (n : Int) (127 : Int) = ((n &&& 127 : Nat) : Int) := fun n hn =>
    (bits_nat .i64 63 (by decide) (fun m h0 h1 => IntWalk.i64_in m ⟨by omega, by omega⟩) n 127 (by omega) (by omega)).1
  have q1 := sD_nat 256 (nC (nAB 4 3689348814741910323 (nAB 2 6148914691236517205 x))) (by omega)
  have q2 := sD_nat 65536 (nD 256 (nC (nAB 4 3689348814741910323 (nAB 2 6148914691236517205 x)))) (by omega)
  have q3 := sD_nat 4294967296 (nD 65536 (nD 256 (nC (nAB 4 3689348814741910323 (nAB 2 6148914691236517205 x))))) (by omega)
  have q := popN_eq x h
  rw [popX, sA_nat x (by omega), sB_nat _ (by omega), sC_nat _ (by omega)]
  rw [show (256 : Int) = ((256 : Nat) : Int) from rfl, q1, show (65536 : Int) = ((65536 : Nat) : Int) from rfl, q2, show (4294967296 : Int) = ((4294967296 : Nat) : Int) from rfl, q3, e5 _ (by omega), e6 _ (by omega), ← q]
  rfl

end Go.Proofs.YthlbplmghjaeoaaDoor
