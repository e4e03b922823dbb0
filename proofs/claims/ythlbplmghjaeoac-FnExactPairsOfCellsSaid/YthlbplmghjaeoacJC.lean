/- Counts by the model: fractions in lowest terms. -/
import Derived.Test.YthlbplmghjaeoacJB
import Derived.Test.YthlbplmghjaeoacE
import Derived.Deep.QuietTactic
import Derived.BigQuiet
import Derived.StillTailTactics
import Derived.Deep.RegionHeld3
import Derived.IntWalk
import Derived.Outline
namespace Go.Proofs.Ythlbplmghjaeoac
open Go.RowKit

theorem gcd_round (a b : Nat) : Nat.gcd b (a % b) = Nat.gcd a b := by
  rw [Nat.gcd_comm b, ← Nat.gcd_rec, Nat.gcd_comm]

theorem Owns.two (w : World) (B e : Nat) (x y : Value) (hB : B ≤ w.heap.size) : Owns (w.alloc (.cells #[x, y] e)) B e (.slice (some ⟨w.heap.size, 0, none⟩) 2 2) [x, y] := by
  refine ⟨by simp, .inr ⟨w.heap.size, 2, #[x, y], by simp, hB, heap_alloc_new w _, by simp, by simp [maxLen], by simp, by simp⟩⟩
theorem toDrewJ {B : Nat} {w w' : World} (h : Below B w w') : Below B w w'.drew := ⟨h.os, h.tape, h.output, h.size, h.block⟩

end Go.Proofs.Ythlbplmghjaeoac
