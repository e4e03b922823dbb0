/- Cells put elsewhere: turned and mirrored; the model of both. -/
import Derived.Test.YtndmkbkmfonefabDoorU1
namespace Go.Proofs.YtndmkbkmfonefabDoor
open Go.RowKit

/-- Cells told by the places where they come from. -/
def permM (cells : List UInt8) (src : Nat → Nat) (n : Nat) : List UInt8 := (List.range n).map fun j => cells.getD (src j) 0
@[simp] theorem permM_length (cells : List UInt8) (src : Nat → Nat) (n : Nat) : (permM cells src n).length = n := by simp [permM]
theorem permM_succ (cells : List UInt8) (src : Nat → Nat) (n : Nat) : permM cells src (n + 1) = permM cells src n ++ [cells.getD (src n) 0] := by
  simp [permM, List.range_succ]
/-- The first k cells put into their places. -/
def putsM (cells : List UInt8) (dst : Nat → Nat) (n : Nat) : Nat → List UInt8
  | 0 => List.replicate n 46
  | k + 1 => (putsM cells dst n k).set (dst k) (cells.getD k 0)
@[simp] theorem putsM_length (cells : List UInt8) (dst : Nat → Nat) (n : Nat) : ∀ k, (putsM cells dst n k).length = n
  | 0 => by simp [putsM]
  | k + 1 => by rw [putsM, List.length_set, putsM_length cells dst n k]
theorem putsM_get (cells : List UInt8) (dst src : Nat → Nat) (n : Nat) (h1 : ∀ k, k < n → dst k < n ∧ src (dst k) = k) (h2 : ∀ j, j < n → dst (src j) = j) :
    ∀ k, k ≤ n → ∀ j, j < n → (putsM cells dst n k)[j]? = some (if src j < k then cells.getD (src j) 0 else 46)
  | 0, _, j, hj => by simp [putsM, hj]
  | k + 1, hk, j, hj => by
    have ih := putsM_get cells dst src n h1 h2 k (by omega) j hj
    obtain ⟨d1, d2⟩ := h1 k (by omega)
    rw [putsM]
    by_cases q : dst k = j
    · subst q
      rw [List.getElem?_set_self (by simpa using d1), d2, if_pos (by omega)]
    · rw [List.getElem?_set_ne q, ih]
      have hne : src j ≠ k := fun e => q (by rw [← e]; exact h2 j hj)
      by_cases p : src j < k
      · rw [if_pos p, if_pos (by omega)]
      · rw [if_neg p, if_neg (by omega)]
theorem putsM_all (cells : List UInt8) (dst src : Nat → Nat) (n : Nat) (h1 : ∀ k, k < n → dst k < n ∧ src (dst k) = k) (h2 : ∀ j, j < n → src j < n ∧ dst (src j) = j) : putsM cells dst n n = permM cells src n := by
  apply List.ext_getElem?
  intro j
  by_cases hj : j < n
  · rw [putsM_get cells dst src n h1 (fun j hj => (h2 j hj).2) n (Nat.le_refl _) j hj, if_pos (h2 j hj).1]
    simp [permM, hj]
  · rw [List.getElem?_eq_none (by simpa using hj), List.getElem?_eq_none (by simpa using hj)]

/-- Where a cell comes to by a turn, and where it comes from; the place of a cell in a mirror. -/
def turnD (W H k : Nat) : Nat := (k % W) * H + (H - 1 - k / W)
def turnS (W H j : Nat) : Nat := (H - 1 - j % H) * W + j / H
def mirrD (W k : Nat) : Nat := (k / W) * W + (W - 1 - k % W)
theorem turn_all : ∀ W, W < 9 → ∀ H, H < 9 → ∀ k, k < W * H → (turnD W H k < W * H ∧ turnS W H (turnD W H k) = k) ∧ (turnS W H k < W * H ∧ turnD W H (turnS W H k) = k) := by decide +kernel
theorem mirr_all : ∀ W, W < 9 → ∀ H, H < 9 → ∀ k, k < W * H → mirrD W k < W * H ∧ mirrD W (mirrD W k) = k := by decide +kernel
theorem turn_puts (cells : List UInt8) (W H : Nat) (hW : W ≤ 8) (hH : H ≤ 8) : putsM cells (turnD W H) (W * H) (W * H) = permM cells (turnS W H) (W * H) :=
  putsM_all _ _ _ _ (fun k hk => (turn_all W (by omega) H (by omega) k hk).1) (fun k hk => (turn_all W (by omega) H (by omega) k hk).2)
theorem mirr_puts (cells : List UInt8) (W H : Nat) (hW : W ≤ 8) (hH : H ≤ 8) : putsM cells (mirrD W) (W * H) (W * H) = permM cells (mirrD W) (W * H) :=
  putsM_all _ _ _ _ (fun k hk => mirr_all W (by omega) H (by omega) k hk) (fun k hk => mirr_all W (by omega) H (by omega) k hk)
theorem turnS_at (W H x y : Nat) (hx : x < H) : turnS W H (y * H + x) = (H - 1 - x) * W + y := by
  unfold turnS
  have h1 : (y * H + x) % H = x := by rw [Nat.mul_comm, Nat.mul_add_mod, Nat.mod_eq_of_lt hx]
  have h2 : (y * H + x) / H = y := by rw [Nat.mul_comm, Nat.mul_add_div (by omega), Nat.div_eq_of_lt hx, Nat.add_zero]
  rw [h1, h2]
theorem mirrD_at (W x y : Nat) (hx : x < W) : mirrD W (y * W + x) = y * W + (W - 1 - x) := by
  unfold mirrD
  have h1 : (y * W + x) % W = x := by rw [Nat.mul_comm, Nat.mul_add_mod, Nat.mod_eq_of_lt hx]
  have h2 : (y * W + x) / W = y := by rw [Nat.mul_comm, Nat.mul_add_div (by omega), Nat.div_eq_of_lt hx, Nat.add_zero]
  rw [h1, h2]
def tuM (l : List UInt8) : List UInt8 := textM (permM (gCells l) (turnS (gW l) (gH l)) (gW l * gH l)) (gH l) (gW l)
def miM (l : List UInt8) : List UInt8 := textM (permM (gCells l) (mirrD (gW l)) (gW l * gH l)) (gW l) (gH l)
theorem tuM_none {l : List UInt8} (h : ¬ boGoodM l = true) : tuM l = [] := by
  unfold tuM gW
  rw [if_neg h]
  rfl
theorem miM_none {l : List UInt8} (h : ¬ boGoodM l = true) : miM l = [] := by
  unfold miM gH
  rw [if_neg h]
  rfl
end Go.Proofs.YtndmkbkmfonefabDoor
