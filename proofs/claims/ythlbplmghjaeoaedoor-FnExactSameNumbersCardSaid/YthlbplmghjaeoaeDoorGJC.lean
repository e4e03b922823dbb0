/- JC, JD, JE, JF, laid as one text. -/
import Derived.Test.YthlbplmghjaeoaeDoorGJ9
import Derived.Test.YthlbplmghjaeoaeDoorE
import Derived.Deep.QuietTactic
import Derived.BigQuiet
import Derived.StillTailTactics
import Derived.Deep.RegionHeld3
import Derived.IntWalk
import Derived.Outline

/- Counts by the model: fractions in lowest terms. -/
namespace Go.Proofs.YthlbplmghjaeoaeDoor
open Go.RowKit

theorem gcd_round (a b : Nat) : Nat.gcd b (a % b) = Nat.gcd a b := by
  rw [Nat.gcd_comm b, ← Nat.gcd_rec, Nat.gcd_comm]

theorem Owns.two (w : World) (B e : Nat) (x y : Value) (hB : B ≤ w.heap.size) : Owns (w.alloc (.cells #[x, y] e)) B e (.slice (some ⟨w.heap.size, 0, none⟩) 2 2) [x, y] := by
  refine ⟨by simp, .inr ⟨w.heap.size, 2, #[x, y], by simp, hB, heap_alloc_new w _, by simp, by simp [maxLen], by simp, by simp⟩⟩
theorem toDrewJ {B : Nat} {w w' : World} (h : Below B w w') : Below B w w'.drew := ⟨h.os, h.tape, h.output, h.size, h.block⟩

end Go.Proofs.YthlbplmghjaeoaeDoor

/- Counts by the model: mean sums. -/
namespace Go.Proofs.YthlbplmghjaeoaeDoor
open Go.RowKit

theorem prsM_range (W H : Nat) (hW : 1 ≤ W ∧ W ≤ 8) (hH : 1 ≤ H ∧ H ≤ 8) : 0 ≤ prsM W H ∧ prsM W H ≤ 256 := by
  obtain ⟨a1, a2⟩ := mulB (a := (W : Int)) (b := (H : Int) - 1) ⟨by omega, by omega⟩ ⟨by omega, by omega⟩
  obtain ⟨b1, b2⟩ := mulB (a := (H : Int)) (b := (W : Int) - 1) ⟨by omega, by omega⟩ ⟨by omega, by omega⟩
  obtain ⟨c1, c2⟩ := mulB (a := (W : Int) - 1) (b := (H : Int) - 1) ⟨by omega, by omega⟩ ⟨by omega, by omega⟩
  have d : 2 * ((W : Int) - 1) * ((H : Int) - 1) = 2 * (((W : Int) - 1) * ((H : Int) - 1)) := by rw [Int.mul_assoc]
  unfold prsM
  omega
/-- A fraction in lowest terms. -/
def lowP (num den : Nat) : Nat × Nat := (num / Nat.gcd num den, den / Nat.gcd num den)
/-- What MeanSum hands back. -/
def msB (w h m : Int) : Bool := szB w h 64 && inB m 0 (w * h)
def msP (w h m : Int) : Nat × Nat :=
  if msB w h m = true then
    (if w.toNat * h.toNat = 1 then (0, 1) else lowP (2 * (prsM w h).toNat * m.toNat * (w.toNat * h.toNat - m.toNat)) (w.toNat * h.toNat * (w.toNat * h.toNat - 1)))
  else (0, 0)

end Go.Proofs.YthlbplmghjaeoaeDoor

/- Counts by the model: mean numbers. -/
namespace Go.Proofs.YthlbplmghjaeoaeDoor
open Go.RowKit

/-- What MeanNumber hands back. -/
def mqB (w h m c : Int) : Bool := szB w h 64 && inB m 0 (w * h) && inB c 0 (w * h - 1)
def mqOK (w h m c : Int) : Bool := mqB w h m c && !decide (m = w * h)
def mqP (w h m c : Int) : Nat × Nat :=
  if mqOK w h m c = true then
    (if w.toNat * h.toNat = 1 then (0, 1) else lowP ((nearM w.toNat (w.toNat * h.toNat) c.toNat).length * m.toNat) (w.toNat * h.toNat - 1))
  else (0, 0)

theorem boNear_len (W H c : Nat) (hW : W ≤ 8) (hH : H ≤ 8) (hc : c < W * H) : (boNearM W H c).length = (nearM W (W * H) c).length := by
  rw [near_eq W H c hW hH hc, List.length_map]

end Go.Proofs.YthlbplmghjaeoaeDoor

/- Counts by the model: boards by a number of a cell. -/
namespace Go.Proofs.YthlbplmghjaeoaeDoor
open Go.RowKit

end Go.Proofs.YthlbplmghjaeoaeDoor
