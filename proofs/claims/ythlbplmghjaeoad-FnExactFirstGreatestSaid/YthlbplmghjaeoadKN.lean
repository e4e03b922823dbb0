/- Sums of all small boards, by computation. -/
import Derived.Test.YthlbplmghjaeoadKH
namespace Go.Proofs.Ythlbplmghjaeoad
set_option maxRecDepth 1000000 in
theorem und_restB : ∀ W : Nat, W < 9 → 1 ≤ W → ∀ H : Nat, H < 9 → 1 ≤ H → (Nat.ble (W * H) 11 == false || under (adjP W (W * H)) (topG W H) (2 ^ (W * H))) = true := by decide +kernel
theorem und_rest (W H : Nat) (hW : 1 ≤ W ∧ W ≤ 8) (hH : 1 ≤ H ∧ H ≤ 8) (h11 : W * H ≤ 11) : under (adjP W (W * H)) (topG W H) (2 ^ (W * H)) = true := by
  have h := und_restB W (by omega) hW.1 H (by omega) hH.1
  rw [Nat.ble_eq_true_of_le h11] at h
  simpa using h
end Go.Proofs.Ythlbplmghjaeoad
