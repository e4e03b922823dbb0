/- The law of DoesFitStrip, walked: at all arguments the program answers as the model. -/
import Derived.Test.YthlbplmghjaeoaeM6
namespace Go.Proofs.Ythlbplmghjaeoae
open Go.RowKit

set_option maxRecDepth 100000 in
set_option maxHeartbeats 1600000 in
theorem law_DoesFitStrip (l r : List UInt8) (w : World) (hs : l.length ≤ 9223372036854775807) (hs2 : r.length ≤ 9223372036854775807) :
    Calls Try.prog 9 #[.string ⟨l.toArray⟩, .string ⟨r.toArray⟩] w fun e w' => e = .returned (.bool true) ∧ Below w.heap.size w w' := by
  by_cases hl : l.length ≤ 1048576
  · by_cases hl2 : r.length ≤ 1048576
    · have d0 : (dfV l r != dfV l r) = false := by simp
      have d1 : (dfB l r != dfB l r) = false := by simp
      go_enter Try.func9, Try.ntmps9
      go_wp2_with fail
      refine (sDoesFitStrip_any l r _ hl hl2).mono ?_
      rintro e w1 ⟨rfl, hb⟩
      go_wp2_with fail
      refine (iDoesFitStrip_any l r _ hl hl2).mono ?_
      rintro e w2 ⟨rfl, hb2⟩
      go_wp2_with fail
      go_ret
      exact ⟨rfl, hb.trans (hb2.mono hb.size)⟩
    · have hl2' : 1048576 < r.length := by omega
      clear hl2
      go_enter Try.func9, Try.ntmps9
      go_wp2_with fail
      go_ret
      exact ⟨rfl, Below.refl _ _⟩
  · have hl' : 1048576 < l.length := by omega
    clear hl
    go_enter Try.func9, Try.ntmps9
    go_wp2_with fail
    go_ret
    exact ⟨rfl, Below.refl _ _⟩
end Go.Proofs.Ythlbplmghjaeoae
