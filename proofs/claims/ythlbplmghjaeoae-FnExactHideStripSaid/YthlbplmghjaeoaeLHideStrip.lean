/- The law of HideStrip, walked: at all arguments the program answers as the model, and what it hands back is its own. -/
import Derived.Test.YthlbplmghjaeoaeM9
import Derived.Test.YthlbplmghjaeoaeZ4
namespace Go.Proofs.Ythlbplmghjaeoae
open Go.RowKit

set_option maxRecDepth 100000 in
set_option maxHeartbeats 3200000 in
theorem law_HideStrip (l : List UInt8) (xs : List Int) (a : Option Addr) (cap : Nat) (w : World) (hat : At w a (ints xs)) (hs : l.length ≤ 9223372036854775807) (hs2 : xs.length ≤ 9223372036854775807) :
    Calls Try.prog 8 #[.string ⟨l.toArray⟩, .slice a xs.length cap] w fun e w' => e = .returned (.bool true) ∧ Below w.heap.size w w' := by
  by_cases hl : l.length ≤ 1048576
  · by_cases hx : xs.length ≤ 1048576
    · have d0 : (!((hsV l xs) == (hsV l xs))) = false := by simp
      have d1 : (hsB l xs != hsB l xs) = false := by simp
      go_enter Try.func8, Try.ntmps8
      go_wp2_with fail
      refine (toIntS_any xs a cap _ hat hx).mono ?_
      rintro e w1 ⟨a1, c1, rfl, ho1, hb1⟩
      go_wp2_with fail
      refine (sHideStrip_any l xs a1 c1 _ hl ho1.at hx).mono ?_
      rintro e w2 ⟨rfl, hb2⟩
      have hb02 : Below w.heap.size w w2 := hb1.trans (hb2.mono hb1.size)
      clear ho1 hb1 hb2
      go_wp2_with fail
      refine (toIntS_any xs a cap _ (hat.later rfl hb02) hx).mono ?_
      rintro e w3 ⟨a3, c3, rfl, ho3, hb3⟩
      have hb03 : Below w.heap.size w w3 := hb02.trans (hb3.mono hb02.size)
      clear hb02 hb3
      go_wp2_with fail
      refine (iHideStrip_any l xs a3 c3 _ hl ho3.at hx).mono ?_
      rintro e w4 ⟨rfl, hb4⟩
      have ho4 := ho3.later hb4
      have hb04 : Below w.heap.size w w4 := hb03.trans (hb4.mono hb03.size)
      clear ho3 hb03 hb4
      go_wp2_with fail
      refine (toIntS_any xs a cap _ (hat.later rfl hb04) hx).mono ?_
      rintro e w5 ⟨a5, c5, rfl, ho5, hb5⟩
      have ho5' := ho4.later hb5
      have hb05 : Below w.heap.size w w5 := hb04.trans (hb5.mono hb04.size)
      clear ho4 hb04 hb5
      go_wp2_with fail
      refine (eqIntS_same a3 a5 xs _ c3 c5 _ rfl ho5'.at ho5.at (by omega)).mono ?_
      rintro e w6 ⟨rfl, hb6⟩
      go_wp2_with fail
      go_ret
      exact ⟨rfl, hb05.trans (hb6.mono hb05.size)⟩

    · have hx' : 1048576 < xs.length := by omega
      clear hx
      go_enter Try.func8, Try.ntmps8
      go_wp2_with fail
      go_ret
      exact ⟨rfl, Below.refl _ _⟩
  · have hl' : 1048576 < l.length := by omega
    clear hl
    go_enter Try.func8, Try.ntmps8
    go_wp2_with fail
    go_ret
    exact ⟨rfl, Below.refl _ _⟩
end Go.Proofs.Ythlbplmghjaeoae
