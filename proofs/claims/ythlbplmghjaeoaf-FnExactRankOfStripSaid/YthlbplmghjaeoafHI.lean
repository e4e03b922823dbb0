/- Strips: counts of lists that fit, by the model. -/
import Derived.Test.YthlbplmghjaeoafHG
import Derived.Test.YthlbplmghjaeoafHA
import Derived.Test.YthlbplmghjaeoafHH
namespace Go.Proofs.Ythlbplmghjaeoaf
open Go.RowKit

set_option maxRecDepth 100000 in
set_option maxHeartbeats 1600000 in
theorem stAll_any (s : List UInt8) (hg : stM s = true) (t : List Bool) (ht : t.length ≤ s.length) (w : World) :
    Calls Try.prog 8 #[.string ⟨s.toArray⟩, .string ⟨(t.map sgM).toArray⟩] w fun e w' => e = .returned (.int .i64 (sumN 41 (fitW s (t.map sgM)) : Nat)) ∧ Below w.heap.size w w' := by
  have HF := Lib.hid fun w => stFrom_any s hg t ht w
  have htot := fitW_tot40 s (t.map sgM) (stM_facts hg).2.1
  generalize fitW s (t.map sgM) = f at *
  go_enter Try.func8, Try.ntmps8
  go_wp2_with fail
  refine (HF.out _).mono ?_
  rintro e w1 ⟨rfl, hb1⟩
  go_wp2_with fail
  go_loop [5, 11] (fun v i => ∃ k : Nat, k ≤ 41 ∧ i = .int .i64 k ∧ v = .int .i64 (sumN k f : Nat)) (fun _ i => 41 - (intOf i).toNat)
  case atStart => exact ⟨0, by omega, rfl, rfl⟩
  case round =>
    obtain ⟨k, hk, rfl, rfl⟩ := hrel
    by_cases hlt : k < 41
    · have hix := fun w => idx61 (wvA f) k _ hlt (wvA_get f hlt) w
      have hkz : (k : Int) < 41 := by omega
      have hs1 := sumN_le_len (show k + 1 ≤ 41 by omega) f
      rw [sumN] at hs1
      have hsn : Hid (sumN (k + 1) f = sumN k f + f k) := rfl
      generalize sumN k f = sk at *
      generalize f k = fk at *
      go_wp2_with fail
      go_round
      case rel => exact ⟨k + 1, by omega, by go_num, by rw [hsn.out]; go_num⟩
      case measure => simp [intOf]; omega
    · obtain rfl : k = 41 := by omega
      go_wp2_with fail
      go_ret
      exact ⟨rfl, hb1⟩
theorem stAll_nil (s : List UInt8) (hg : stM s = true) (w : World) : Calls Try.prog 8 #[.string ⟨s.toArray⟩, .string ⟨#[]⟩] w fun e w' => e = .returned (.int .i64 (sumN 41 (fitW s []) : Nat)) ∧ Below w.heap.size w w' := stAll_any s hg [] (Nat.zero_le _) w

end Go.Proofs.Ythlbplmghjaeoaf
