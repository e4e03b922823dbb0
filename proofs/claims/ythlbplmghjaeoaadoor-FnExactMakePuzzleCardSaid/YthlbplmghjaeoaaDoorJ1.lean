/- Counts by the model: sizes, pairs of cells, how many ways there are to choose. -/
import Derived.Test.YthlbplmghjaeoaaDoorS1
import Derived.Outline
namespace Go.Proofs.YthlbplmghjaeoaaDoor
open Go.RowKit

/-- Are there sides of at most so many cells? -/
def szB (w h most : Int) : Bool := inB w 1 8 && inB h 1 8 && decide (w * h ≤ most)
theorem mulB {a b : Int} (ha : 0 ≤ a ∧ a ≤ 8) (hb : 0 ≤ b ∧ b ≤ 8) : 0 ≤ a * b ∧ a * b ≤ 64 :=
  ⟨Int.mul_nonneg ha.1 hb.1, Int.le_trans (Int.mul_le_mul ha.2 hb.2 hb.1 (by omega)) (by omega)⟩
theorem inB_iff {n lo hi : Int} : inB n lo hi = true ↔ lo ≤ n ∧ n ≤ hi := by simp [inB]
theorem sz_case (w h most : Int) : szB w h most = false ∨ (szB w h most = true ∧ ∃ W H : Nat, w = W ∧ h = H ∧ 1 ≤ W ∧ W ≤ 8 ∧ 1 ≤ H ∧ H ≤ 8 ∧ ((W * H : Nat) : Int) ≤ most) := by
  cases hs : szB w h most with
  | false => exact .inl rfl
  | true =>
    rw [szB, Bool.and_eq_true, Bool.and_eq_true, inB_iff, inB_iff] at hs
    obtain ⟨⟨h1, h2⟩, h3⟩ := hs
    have h3 := of_decide_eq_true h3
    refine .inr ⟨rfl, w.toNat, h.toNat, by omega, by omega, by omega, by omega, by omega, by omega, ?_⟩
    rw [Int.natCast_mul, Int.toNat_of_nonneg (by omega), Int.toNat_of_nonneg (by omega)]
    exact h3


/-- How many pairs of neighbours there are. -/
def prsM (W H : Int) : Int := W * (H - 1) + H * (W - 1) + 2 * (W - 1) * (H - 1)

/-- How many ways there are to choose. -/
def binom : Nat → Nat → Nat
  | _, 0 => 1
  | 0, _ + 1 => 0
  | n + 1, k + 1 => binom n k + binom n (k + 1)
def chI (n : Nat) (k : Int) : Int := if 0 ≤ k then (binom n k.toNat : Int) else 0
theorem binom_step (m i : Nat) (hi : 1 ≤ i) (h : m + i ≤ 12) : binom (m + (i - 1)) (i - 1) * (m + i) / i = binom (m + i) i ∧ binom (m + (i - 1)) (i - 1) ≤ 1000 := by
  have key : ∀ m < 13, ∀ i < 13, 1 ≤ i → m + i ≤ 12 → (binom (m + (i - 1)) (i - 1) * (m + i) / i = binom (m + i) i ∧ binom (m + (i - 1)) (i - 1) ≤ 1000) := by decide +kernel
  exact key m (by omega) i (by omega) hi h
theorem binom_over (n k : Nat) (h : n < k) : binom n k = 0 := by
  have : ∀ (n k : Nat), n < k → binom n k = 0 := by
    intro n
    induction n with
    | zero => intro k hk; match k, hk with | k + 1, _ => rfl
    | succ n ih => intro k hk; match k, hk with | k + 1, hk => rw [binom, ih k (by omega), ih (k + 1) (by omega)]
  exact this n k h

end Go.Proofs.YthlbplmghjaeoaaDoor
