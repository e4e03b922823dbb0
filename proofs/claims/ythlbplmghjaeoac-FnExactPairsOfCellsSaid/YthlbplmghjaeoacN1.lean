/- Walks: the model's neighbours of a cell. -/
import Derived.Test.YthlbplmghjaeoacS4
import Derived.Deep.QuietTactic
import Derived.BigQuiet
import Derived.WalkSmall
import Derived.Outline
namespace Go.Proofs.Ythlbplmghjaeoac
open Go.RowKit

/-- Whether the model takes the place (a, b) beside (x, y). -/
def takes (W H x y a b : Int) : Bool := inB a 0 (W - 1) && inB b 0 (H - 1) && (a != x || b != y)
def innerGo (W H x y b : Int) : Nat → Int → List Int
  | 0, _ => []
  | m + 1, a => if takes W H x y a b = true then (b * W + a) :: innerGo W H x y b m (a + 1) else innerGo W H x y b m (a + 1)
def outerGo (W H x y : Int) : Nat → Int → List Int
  | 0, _ => []
  | m + 1, b => innerGo W H x y b 3 (x - 1) ++ outerGo W H x y m (b + 1)
def boNearM (W H c : Nat) : List Int := outerGo W H (c % W : Nat) (c / W : Nat) 3 ((c / W : Nat) - 1)
theorem innerGo_le (W H x y b : Int) : ∀ (m : Nat) (a : Int), (innerGo W H x y b m a).length ≤ m
  | 0, _ => by simp [innerGo]
  | m + 1, a => by
    have := innerGo_le W H x y b m (a + 1)
    unfold innerGo; split <;> simp <;> omega
theorem outerGo_le (W H x y : Int) : ∀ (m : Nat) (b : Int), (outerGo W H x y m b).length ≤ 3 * m
  | 0, _ => by simp [outerGo]
  | m + 1, b => by
    have := outerGo_le W H x y m (b + 1)
    have := innerGo_le W H x y b 3 (x - 1)
    unfold outerGo; simp; omega
theorem boNearM_le (W H c : Nat) : (boNearM W H c).length ≤ 9 := outerGo_le _ _ _ _ 3 _

theorem wrapIdx (b W a : Int) (hb : -100 ≤ b ∧ b ≤ 100) (hW : 0 ≤ W ∧ W ≤ 8) (ha : -100 ≤ a ∧ a ≤ 100) : wrap64 (wrap64 (b * W) + a) = b * W + a := by
  have hw : W = 0 ∨ W = 1 ∨ W = 2 ∨ W = 3 ∨ W = 4 ∨ W = 5 ∨ W = 6 ∨ W = 7 ∨ W = 8 := by omega
  have h1 : -800 ≤ b * W ∧ b * W ≤ 800 := by
    rcases hw with rfl | rfl | rfl | rfl | rfl | rfl | rfl | rfl | rfl <;> omega
  rw [IntWalk.wrap64_in (b * W) ⟨by omega, by omega⟩, IntWalk.wrap64_in _ ⟨by omega, by omega⟩]

end Go.Proofs.Ythlbplmghjaeoac
