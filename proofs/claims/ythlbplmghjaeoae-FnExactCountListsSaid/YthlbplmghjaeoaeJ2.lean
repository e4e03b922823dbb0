/- Counts by the model: pairs of cells, boards by mines, by a number of a cell, mines apart. -/
import Derived.Test.YthlbplmghjaeoaeJ1
import Derived.Test.YthlbplmghjaeoaeGN1
import Derived.Outline
namespace Go.Proofs.Ythlbplmghjaeoae
open Go.RowKit

/-- What PairsOfCells hands back. -/
def pcM (w h : Int) : Int := if szB w h 64 = true then prsM w h else 0
/-- What CountBoards hands back. -/
def cbB (w h m : Int) : Bool := szB w h 12 && inB m 0 (w * h)
def cbM (w h m : Int) : Int := if cbB w h m = true then chI (w.toNat * h.toNat) m else 0
/-- What MostApart hands back. -/
def maM (w h : Int) : Int := if szB w h 12 = true then (w + 1) / 2 * ((h + 1) / 2) else 0
/-- What CountWithNumber hands back. -/
def cnB (w h m c d : Int) : Bool := szB w h 12 && inB m 0 (w * h) && inB c 0 (w * h - 1) && inB d 0 8
def cnM (w h m c d : Int) : Int := if cnB w h m c d = true then chI (nearM w.toNat (w.toNat * h.toNat) c.toNat).length d * chI (w.toNat * h.toNat - 1 - (nearM w.toNat (w.toNat * h.toNat) c.toNat).length) (m - d) else 0

theorem chI_all : ∀ n < 13, ∀ k < 13, binom n k ≤ 924 := by decide +kernel
theorem chI_le (n : Nat) (k : Int) (hn : n ≤ 12) : 0 ≤ chI n k ∧ chI n k ≤ 924 := by
  unfold chI
  split
  · by_cases hk : k.toNat < 13
    · have := chI_all n (by omega) k.toNat hk
      omega
    · rw [binom_over n k.toNat (by omega)]
      omega
  · omega
theorem near12_all : ∀ W : Nat, W < 9 → ∀ H : Nat, H < 9 → W * H ≤ 12 → ∀ c, c < W * H → (nearM W (W * H) c).length + 1 ≤ W * H ∧ (nearM W (W * H) c).length ≤ 8 := by decide +kernel



end Go.Proofs.Ythlbplmghjaeoae
