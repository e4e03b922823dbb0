/- Counts by the model: fractions in lowest terms. -/
import Derived.Test.YthlbplmghjaeoadJB
import Derived.Test.YthlbplmghjaeoadE
import Derived.Deep.QuietTactic
import Derived.BigQuiet
import Derived.StillTailTactics
import Derived.Deep.RegionHeld3
import Derived.IntWalk
import Derived.Outline
namespace Go.Proofs.Ythlbplmghjaeoad
open Go.RowKit

theorem gcd_round (a b : Nat) : Nat.gcd b (a % b) = Nat.gcd a b := by
  rw [Nat.gcd_comm b, ← Nat.gcd_rec, Nat.gcd_comm]

theorem Owns.two (w : World) (B e : Nat) (x y : Value) (hB : B ≤ w.heap.size) : Owns (w.alloc (.cells #[x, y] e)) B e (.slice (some ⟨w.heap.size, 0, none⟩) 2 2) [x, y] := by
  refine ⟨by simp, .inr ⟨w.heap.size, 2, #[x, y], by simp, hB, heap_alloc_new w _, by simp, by simp [maxLen], by simp, by simp⟩⟩
theorem toDrewJ {B : Nat} {w w' : World} (h : Below B w w') : Below B w w'.drew := ⟨h.os, h.tape, h.output, h.size, h.block⟩

set_option maxRecDepth 100000 in
set_option maxHeartbeats 1600000 in
theorem viLow_any (num den : Nat) (hd : 0 < den) (hn1 : num ≤ 1099511627776) (hn2 : den ≤ 1099511627776) (w : World) :
    Calls Try.prog 40 #[.int .i64 num, .int .i64 den] w fun e w' => ∃ a cap, e = .returned (.slice a 2 cap) ∧ Owns w' w.heap.size 3 (.slice a 2 cap) (nats [num / Nat.gcd num den, den / Nat.gcd num den]) ∧ Below w.heap.size w w' := by
  have hg0 : 0 < Nat.gcd num den := Nat.gcd_pos_of_pos_right _ hd
  have HG0 : Hid (Nat.gcd num den = Nat.gcd num den) := rfl
  generalize hgg : Nat.gcd num den = g at *
  have HGG := Lib.hid hgg
  clear hgg HG0
  go_enter Try.func40, Try.ntmps40
  go_wp2_with fail
  go_loopw [5, 6] (fun x y wr => ∃ a b : Nat, x = .int .i64 a ∧ y = .int .i64 b ∧ a ≤ 1099511627776 ∧ b ≤ 1099511627776 ∧ Hid (Nat.gcd a b = g) ∧ Below w.heap.size w wr) (fun _ y _ => (intOf y).toNat)
  case atStart => exact ⟨num, den, rfl, rfl, hn1, hn2, HGG, Below.refl _ _⟩
  case round =>
    obtain ⟨a, b, rfl, rfl, ha, hb, hR, hw⟩ := hrel
    by_cases hb0 : b = 0
    · subst hb0
      have hR2 := hR.out
      rw [Nat.gcd_zero_right] at hR2
      subst hR2
      clear hR
      have ha1 : ((a : Int) == 0) = false := by simp; omega
      have ha2 : ¬ a = 0 := by omega
      have wr1 : ∀ q d : Nat, q ≤ 1099511627776 → IntKind.i64.wrap ((q : Int) / (d : Int)) = ((q / d : Nat) : Int) := by
        intro q d hq
        have h1 : q / d ≤ q := Nat.div_le_self _ _
        rw [← Int.natCast_ediv]
        generalize q / d = z at *
        exact IntWalk.i64_in _ ⟨by omega, by omega⟩
      have hw1 := wr1 num a hn1
      have hw2 := wr1 den a hn2
      have HN : Hid (nats [num / a, den / a] = [.int .i64 ((num / a : Nat) : Int), .int .i64 ((den / a : Nat) : Int)]) := rfl
      clear wr1
      generalize hq1 : num / a = q1 at *
      generalize hq2 : den / a = q2 at *
      have HQ1 := Lib.hid hq1
      have HQ2 := Lib.hid hq2
      clear hq1 hq2
      go_wp2_with fail
      go_region_held3 (fun _ => True) (trivial) (fail)
      all_goals
        go_wp2_with fail
        go_ret
        have hb1 := hw.alloc hw.size (.cells #[.int .i64 (q1 : Int), .int .i64 (q2 : Int)] 3)
        have ho := (Owns.two wr w.heap.size 3 (.int .i64 (q1 : Int)) (.int .i64 (q2 : Int)) hw.size).later (toDrewJ (Below.refl _ _))
        exact ⟨_, _, rfl, by rw [HQ1.out, HQ2.out, HN.out]; exact ho, toDrewJ hb1⟩
    · have hbp : 0 < b := by omega
      have hmod : (a : Int).tmod (b : Int) = ((a % b : Nat) : Int) := rfl
      have hml : a % b < b := Nat.mod_lt _ hbp
      have HR2 : Hid (Nat.gcd b (a % b) = g) := by rw [Hid, gcd_round, hR.out]
      clear hb0
      go_wp2_with fail
      go_quiet (fail)
      go_wp2_with fail
      go_roundw
      case rel => exact ⟨b, a % b, rfl, rfl, hb, by omega, HR2, below_drewN hw _⟩
      case measure => simp [intOf]; omega
end Go.Proofs.Ythlbplmghjaeoad
