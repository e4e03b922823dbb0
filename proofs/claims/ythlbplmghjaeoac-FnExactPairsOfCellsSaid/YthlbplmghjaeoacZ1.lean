/- A list of cells that increases: by the program and by the model. -/
import Derived.Test.YthlbplmghjaeoacT7
import Derived.Outline
namespace Go.Proofs.Ythlbplmghjaeoac
open Go.RowKit

/-- Does a list increase from behind a number, below another one? -/
def risesM (n last : Int) : List Int → Bool
  | [] => true
  | x :: r => if last < x ∧ x < n then risesM n x r else false
theorem rises_yes {n last x : Int} {r : List Int} (h : last < x ∧ x < n) : risesM n last (x :: r) = risesM n x r := by rw [risesM, if_pos h]
theorem rises_no {n last x : Int} {r : List Int} (h : ¬ (last < x ∧ x < n)) : risesM n last (x :: r) = false := by rw [risesM, if_neg h]
theorem rises_in {n : Int} : ∀ (xs : List Int) (last : Int), -1 ≤ last → risesM n last xs = true → ∀ x ∈ xs, 0 ≤ x ∧ x < n
  | [], _, _, _, _, h => by simp at h
  | y :: r, last, hl, hr, x, hx => by
    by_cases h : last < y ∧ y < n
    · rw [rises_yes h] at hr
      rcases List.mem_cons.1 hx with rfl | hx
      · exact ⟨by omega, h.2⟩
      · exact rises_in r y (by omega) hr x hx
    · rw [rises_no h] at hr; simp at hr


end Go.Proofs.Ythlbplmghjaeoac
