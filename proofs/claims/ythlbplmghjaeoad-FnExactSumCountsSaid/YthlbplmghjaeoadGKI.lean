/- KI, KM, KN, laid as one text. -/
import Derived.Test.YthlbplmghjaeoadKH

/- Sums of all small boards, by computation. -/
namespace Go.Proofs.Ythlbplmghjaeoad
set_option maxRecDepth 1000000 in
theorem und34 : under (adjP 3 (3 * 4)) (topG 3 4) (2 ^ (3 * 4)) = true := by decide +kernel
set_option maxRecDepth 1000000 in
theorem und43 : under (adjP 4 (4 * 3)) (topG 4 3) (2 ^ (4 * 3)) = true := by decide +kernel
end Go.Proofs.Ythlbplmghjaeoad

/- Sums of all small boards, by computation. -/
namespace Go.Proofs.Ythlbplmghjaeoad
set_option maxRecDepth 1000000 in
theorem und26 : under (adjP 2 (2 * 6)) (topG 2 6) (2 ^ (2 * 6)) = true := by decide +kernel
set_option maxRecDepth 1000000 in
theorem und62 : under (adjP 6 (6 * 2)) (topG 6 2) (2 ^ (6 * 2)) = true := by decide +kernel
end Go.Proofs.Ythlbplmghjaeoad

/- Sums of all small boards, by computation. -/
namespace Go.Proofs.Ythlbplmghjaeoad
set_option maxRecDepth 1000000 in
theorem und_restB : ∀ W : Nat, W < 9 → 1 ≤ W → ∀ H : Nat, H < 9 → 1 ≤ H → (Nat.ble (W * H) 11 == false || under (adjP W (W * H)) (topG W H) (2 ^ (W * H))) = true := by decide +kernel
theorem und_rest (W H : Nat) (hW : 1 ≤ W ∧ W ≤ 8) (hH : 1 ≤ H ∧ H ≤ 8) (h11 : W * H ≤ 11) : under (adjP W (W * H)) (topG W H) (2 ^ (W * H)) = true := by
  have h := und_restB W (by omega) hW.1 H (by omega) hH.1
  rw [Nat.ble_eq_true_of_le h11] at h
  simpa using h
end Go.Proofs.Ythlbplmghjaeoad
