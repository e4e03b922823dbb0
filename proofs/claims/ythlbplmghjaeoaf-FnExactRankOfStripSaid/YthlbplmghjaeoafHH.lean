/- Strips: counts of lists that fit, by the program. -/
import Derived.Test.YthlbplmghjaeoafHA
import Derived.Test.YthlbplmghjaeoafHB
namespace Go.Proofs.Ythlbplmghjaeoaf
open Go.RowKit

/-- The ways in which lists fit what may be a strip. -/
def cwT (l : List UInt8) (K : Nat) : Nat := if stM l = true then fitW l [] K else 0
theorem cwT_yes {l : List UInt8} (h : stM l = true) : cwT l = fitW l [] := by funext K; rw [cwT, if_pos h]
theorem cwT_no {l : List UInt8} (h : stM l = false) : cwT l = fun _ => 0 := by funext K; rw [cwT, h]; rfl
theorem cwT_total (l : List UInt8) : sumN 41 (cwT l) ≤ 4611686018427387904 := by
  cases h : stM l with
  | true => rw [cwT_yes h]; exact fitW_tot40 l [] (stM_facts h).2.1
  | false => rw [cwT_no h, sumN_zero]; decide


end Go.Proofs.Ythlbplmghjaeoaf
