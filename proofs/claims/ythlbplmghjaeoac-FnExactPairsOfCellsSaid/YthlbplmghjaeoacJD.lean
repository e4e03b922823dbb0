/- Counts by the model: mean sums. -/
import Derived.Test.YthlbplmghjaeoacJC
import Derived.Outline
namespace Go.Proofs.Ythlbplmghjaeoac
open Go.RowKit

theorem prsM_range (W H : Nat) (hW : 1 ≤ W ∧ W ≤ 8) (hH : 1 ≤ H ∧ H ≤ 8) : 0 ≤ prsM W H ∧ prsM W H ≤ 256 := by
  obtain ⟨a1, a2⟩ := mulB (a := (W : Int)) (b := (H : Int) - 1) ⟨by omega, by omega⟩ ⟨by omega, by omega⟩
  obtain ⟨b1, b2⟩ := mulB (a := (H : Int)) (b := (W : Int) - 1) ⟨by omega, by omega⟩ ⟨by omega, by omega⟩
  obtain ⟨c1, c2⟩ := mulB (a := (W : Int) - 1) (b := (H : Int) - 1) ⟨by omega, by omega⟩ ⟨by omega, by omega⟩
  have d : 2 * ((W : Int) - 1) * ((H : Int) - 1) = 2 * (((W : Int) - 1) * ((H : Int) - 1)) := by rw [Int.mul_assoc]
  unfold prsM
  omega
/-- A fraction in lowest terms. -/
def lowP (num den : Nat) : Nat × Nat := (num / Nat.gcd num den, den / Nat.gcd num den)
/-- What MeanSum hands back. -/
def msB (w h m : Int) : Bool := szB w h 64 && inB m 0 (w * h)
def msP (w h m : Int) : Nat × Nat :=
  if msB w h m = true then
    (if w.toNat * h.toNat = 1 then (0, 1) else lowP (2 * (prsM w h).toNat * m.toNat * (w.toNat * h.toNat - m.toNat)) (w.toNat * h.toNat * (w.toNat * h.toNat - 1)))
  else (0, 0)

end Go.Proofs.Ythlbplmghjaeoac
