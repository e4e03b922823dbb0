/- Strips: the list before which just so many others fit. -/
import Derived.Test.YthlbplmghjaeoafHI
namespace Go.Proofs.Ythlbplmghjaeoaf
open Go.RowKit

/-- How many lists begin with these signs and a mine. -/
def rkA (s : List UInt8) (t : List Bool) : Nat := sumN 41 (fitW s ((t ++ [true]).map sgM))
def rkS (s : List UInt8) : Nat → List Bool → Nat → List Bool
  | 0, t, _ => t
  | n + 1, t, r => if r < rkA s t then rkS s n (t ++ [true]) r else rkS s n (t ++ [false]) (r - rkA s t)
def rkT (s : List UInt8) (r : Nat) : List UInt8 := (rkS s s.length [] r).map sgM
theorem rkS_yes {s : List UInt8} {n : Nat} {t : List Bool} {r : Nat} (h : r < rkA s t) : rkS s (n + 1) t r = rkS s n (t ++ [true]) r := by rw [rkS, if_pos h]
theorem rkS_no {s : List UInt8} {n : Nat} {t : List Bool} {r : Nat} (h : ¬ r < rkA s t) : rkS s (n + 1) t r = rkS s n (t ++ [false]) (r - rkA s t) := by rw [rkS, if_neg h]
theorem sg_text (t : List Bool) : t.map sgM ++ [42] = (t ++ [true]).map sgM ∧ t.map sgM ++ [46] = (t ++ [false]).map sgM := by constructor <;> simp [sgM]


/-- Whether so many others fit before one. -/
def sorB (l : List UInt8) (c : Int) : Bool := stM l && inB c 0 (((sumN 41 (cwT l) : Nat) : Int) - 1)
def sorV (l : List UInt8) (c : Int) : List UInt8 := if sorB l c = true then rkT l c.toNat else []
theorem sor_no {l : List UInt8} {c : Int} (h : sorB l c = false) : sorV l c = [] := by rw [sorV, h]; rfl
theorem sor_yes {l : List UInt8} {k : Nat} (h : stM l = true) (hk : k < sumN 41 (cwT l)) : sorB l (k : Int) = true ∧ sorV l (k : Int) = rkT l k := by
  have e : sorB l (k : Int) = true := by
    rw [sorB, h]
    simp [inB]
    omega
  exact ⟨e, by rw [sorV, if_pos e]; rfl⟩
theorem sor_bad {l : List UInt8} {c : Int} (h : stM l = false) : sorB l c = false := by rw [sorB, h]; rfl
theorem sor_out {l : List UInt8} {c : Int} (h : ¬ (0 ≤ c ∧ c < (sumN 41 (cwT l) : Nat))) : sorB l c = false := by
  rw [sorB]; simp [inB]; intro _; omega



end Go.Proofs.Ythlbplmghjaeoaf
