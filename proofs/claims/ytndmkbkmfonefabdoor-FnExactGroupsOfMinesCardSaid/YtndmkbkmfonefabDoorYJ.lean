/- Opening: the cells alone, by the model. -/
import Derived.Test.YtndmkbkmfonefabDoorYI
import Derived.Outline
namespace Go.Proofs.YtndmkbkmfonefabDoor
open Go.RowKit

theorem wiM_zero (rss : List (List Nat)) (k : Nat) : ((wiM rss k).length == 0) = rss.all (fun r => !decide (k ∈ r)) := by
  rw [Bool.eq_iff_iff, beq_iff_eq, List.all_eq_true]
  unfold wiM filtM
  rw [List.length_eq_zero_iff, List.filter_eq_nil_iff]
  constructor
  · intro h r hr
    obtain ⟨i, hi, rfl⟩ := List.getElem_of_mem hr
    have := h i (List.mem_range.2 hi)
    rw [hasI_nat] at this
    simpa [List.getD, hi] using this
  · intro h i hi
    have hi' := List.mem_range.1 hi
    rw [hasI_nat]
    have := h _ (List.getElem_mem hi')
    simpa [List.getD, hi'] using this
/-- Alone, as the model asks it. -/
def alB (cells : List UInt8) (rss : List (List Nat)) (k : Nat) : Bool := (cells.getD k 0 == 46) && rss.all (fun r => !decide (k ∈ r))
theorem alB_eq (cells : List UInt8) (rss : List (List Nat)) (k : Nat) (hk : k < cells.length) (hs : ∀ c ∈ cells, c = 46 ∨ c = 42) : aloneB cells rss k = alB cells rss k := by
  unfold aloneB alB
  rw [wiM_zero, freeB_at cells k hk]
  congr 1
  have e : cells.getD k 0 = cells[k] := by simp [List.getD, hk]
  rw [e]
  rcases hs _ (List.getElem_mem hk) with h | h <;> rw [h] <;> rfl
theorem filtM_congr {p q : Nat → Bool} {n : Nat} (h : ∀ k, k < n → p k = q k) : filtM p n = filtM q n := by
  unfold filtM
  exact List.filter_congr (fun x hx => h x (List.mem_range.1 hx))


end Go.Proofs.YtndmkbkmfonefabDoor
