/- Sums of all small boards, by computation. -/
import Derived.Test.YthlbplmghjaeoadKH
namespace Go.Proofs.Ythlbplmghjaeoad
set_option maxRecDepth 1000000 in
theorem und26 : under (adjP 2 (2 * 6)) (topG 2 6) (2 ^ (2 * 6)) = true := by decide +kernel
set_option maxRecDepth 1000000 in
theorem und62 : under (adjP 6 (6 * 2)) (topG 6 2) (2 ^ (6 * 2)) = true := by decide +kernel
end Go.Proofs.Ythlbplmghjaeoad
