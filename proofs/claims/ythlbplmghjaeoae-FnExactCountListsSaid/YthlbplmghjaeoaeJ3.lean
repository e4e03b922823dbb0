/- Counts by the model: a board by its number. -/
import Derived.Test.YthlbplmghjaeoaeJ2
import Derived.Lib.RabinKarpLaws
import Derived.Outline
namespace Go.Proofs.Ythlbplmghjaeoae
open Go.RowKit

/-- The cells of the board with a number. -/
def ctB (n m : Nat) : List UInt8 := (List.range n).map fun i => if m.testBit (n - 1 - i) = true then 46 else 42
theorem ctB_length (n m : Nat) : (ctB n m).length = n := by simp [ctB]
theorem ctB_snoc (n m j : Nat) (h : j < n) : (ctB n m).take (j + 1) = (ctB n m).take j ++ [if m.testBit (n - 1 - j) = true then 46 else 42] := by
  rw [List.take_succ_eq_append_getElem (by rw [ctB_length]; exact h)]
  simp [ctB]

theorem bit_zero (m q : Nat) (hm : m < 4096) : (bits BinOp.and IntKind.i64 ((m : Int) / 2 ^ q) 1 == 0) = !m.testBit q := by
  have e : (m : Int) / 2 ^ q = ((m / 2 ^ q : Nat) : Int) := by simp
  have h : m / 2 ^ q ≤ m := Nat.div_le_self _ _
  rw [e, and_one _ (by omega), Nat.testBit_eq_decide_div_mod_eq]
  have h2 : m / 2 ^ q % 2 = 0 ∨ m / 2 ^ q % 2 = 1 := by omega
  rcases h2 with h2 | h2 <;> rw [h2] <;> rfl

set_option maxRecDepth 100000 in
set_option maxHeartbeats 800000 in
theorem ctBoard_any (n m : Nat) (hn : n ≤ 12) (hm : m < 4096) (wr : World) :
    Calls Try.prog 65 #[.int .i64 n, .int .i64 m] wr fun e w' => e = .returned (.string ⟨(ctB n m).toArray⟩) ∧ wr = w' := by
  go_enter Try.func65, Try.ntmps65
  go_wp2_with fail
  go_loop [5, 6] (fun o i => ∃ j : Nat, j ≤ n ∧ i = .int .i64 ((n : Int) - 1 - j) ∧ o = .string ⟨((ctB n m).take j).toArray⟩) (fun _ i => ((intOf i) + 1).toNat)
  case atStart => exact ⟨0, by omega, by simp, rfl⟩
  case round =>
    obtain ⟨j, hj, rfl, rfl⟩ := hrel
    by_cases hlt : j < n
    · have hs := ctB_snoc n m j hlt
      obtain ⟨q, hq⟩ : ∃ q : Nat, (n : Int) - 1 - j = q := ⟨n - 1 - j, by omega⟩
      have hq2 : n - 1 - j = q := by omega
      rw [hq2] at hs
      have hq3 : (n : Int) - 1 - ((j + 1 : Nat) : Int) = (q : Int) - 1 := by omega
      rw [hq]
      have HQ := Lib.hid hq3
      have HS := Lib.hid hs
      have hq12 : q ≤ 11 := by omega
      have hbz := bit_zero m q hm
      cases hb : m.testBit q with
      | true =>
        rw [hb] at hbz HS
        clear hq hq2 hq3 hs hb
        go_wp2_with fail
        go_round
        case rel => exact ⟨j + 1, by omega, by rw [HQ.out], by rw [HS.out] <;> rfl⟩
        case measure => simp [intOf] <;> omega
      | false =>
        rw [hb] at hbz HS
        clear hq hq2 hq3 hs hb
        go_wp2_with fail
        go_round
        case rel => exact ⟨j + 1, by omega, by rw [HQ.out], by rw [HS.out] <;> rfl⟩
        case measure => simp [intOf] <;> omega
    · obtain rfl : j = n := by omega
      have HE : Hid ((ctB j m).take j = ctB j m) := List.take_of_length_le (by rw [ctB_length]; omega)
      have h0 : (j : Int) - 1 - j = -1 := by omega
      rw [h0]
      clear h0
      go_wp2_with fail
      go_ret
      exact ⟨by rw [HE.out] <;> rfl, rfl⟩
end Go.Proofs.Ythlbplmghjaeoae
