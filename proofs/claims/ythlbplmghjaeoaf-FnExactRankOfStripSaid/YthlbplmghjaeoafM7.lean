/- Strips: how many lists come before one, by the program. -/
import Derived.Test.YthlbplmghjaeoafM6
import Derived.Test.YthlbplmghjaeoafHR
namespace Go.Proofs.Ythlbplmghjaeoaf
open Go.RowKit

theorem iRankOfStrip_any (s b : List UInt8) (w : World) (hs : s.length ≤ 1048576) (hb : b.length ≤ 1048576) :
    Calls Try.prog 5 #[.string ⟨s.toArray⟩, .string ⟨b.toArray⟩] w fun e w' => e = .returned (.tuple #[.int .i64 (rkV s b : Nat), .bool (dfV s b)]) ∧ Below w.heap.size w w' :=
  iRankOfStrip_of s b w hs hb (fun w => iDoesFitStrip_any s b w hs hb)
end Go.Proofs.Ythlbplmghjaeoaf
