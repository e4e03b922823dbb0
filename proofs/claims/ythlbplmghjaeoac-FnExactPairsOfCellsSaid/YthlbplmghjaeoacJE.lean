/- Counts by the model: mean numbers. -/
import Derived.Test.YthlbplmghjaeoacJD
import Derived.Outline
namespace Go.Proofs.Ythlbplmghjaeoac
open Go.RowKit

/-- What MeanNumber hands back. -/
def mqB (w h m c : Int) : Bool := szB w h 64 && inB m 0 (w * h) && inB c 0 (w * h - 1)
def mqOK (w h m c : Int) : Bool := mqB w h m c && !decide (m = w * h)
def mqP (w h m c : Int) : Nat × Nat :=
  if mqOK w h m c = true then
    (if w.toNat * h.toNat = 1 then (0, 1) else lowP ((nearM w.toNat (w.toNat * h.toNat) c.toNat).length * m.toNat) (w.toNat * h.toNat - 1))
  else (0, 0)

theorem boNear_len (W H c : Nat) (hW : W ≤ 8) (hH : H ≤ 8) (hc : c < W * H) : (boNearM W H c).length = (nearM W (W * H) c).length := by
  rw [near_eq W H c hW hH hc, List.length_map]

end Go.Proofs.Ythlbplmghjaeoac
