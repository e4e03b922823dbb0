/- Sums of all small boards, by computation. -/
import Derived.Test.YthlbplmghjaeoadKH
namespace Go.Proofs.Ythlbplmghjaeoad
set_option maxRecDepth 1000000 in
theorem und34 : under (adjP 3 (3 * 4)) (topG 3 4) (2 ^ (3 * 4)) = true := by decide +kernel
set_option maxRecDepth 1000000 in
theorem und43 : under (adjP 4 (4 * 3)) (topG 4 3) (2 ^ (4 * 3)) = true := by decide +kernel
end Go.Proofs.Ythlbplmghjaeoad
