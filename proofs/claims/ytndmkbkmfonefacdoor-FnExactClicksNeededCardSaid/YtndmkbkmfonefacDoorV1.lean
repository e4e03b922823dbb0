/- Clicks: whether a list is one of clicks, by the model. -/
import Derived.Test.YtndmkbkmfonefacDoorGY8
import Derived.Test.YtndmkbkmfonefacDoorT7
import Derived.Outline
namespace Go.Proofs.YtndmkbkmfonefacDoor
open Go.RowKit

/-- Are there a board and clicks? -/
def clkOK (l : List UInt8) (xs : List Int) : Bool := boGoodM l && decide (xs.length ≤ 64) && xs.all (freeOK l)
theorem clk_yes {l : List UInt8} {xs : List Int} (h : clkOK l xs = true) : boGoodM l = true ∧ xs.length ≤ 64 ∧ ∀ x ∈ xs, freeOK l x = true := by
  simp only [clkOK, Bool.and_eq_true, decide_eq_true_eq, List.all_eq_true] at h
  exact ⟨h.1.1, h.1.2, h.2⟩
theorem clk_short {l : List UInt8} {xs : List Int} (h1 : boGoodM l = true) (h2 : xs.length ≤ 64) : clkOK l xs = xs.all (freeOK l) := by
  simp [clkOK, h1, h2]

set_option maxRecDepth 100000 in
set_option maxHeartbeats 800000 in
theorem opClicks_any (l : List UInt8) (xs : List Int) (a : Option Addr) (cap : Nat) (w : World) (hl : l.length ≤ 1048576) (hat : At w a (ints xs)) (hx : xs.length ≤ 1048576) :
    Calls Tryd.prog 62 #[.string ⟨l.toArray⟩, .slice a xs.length cap] w fun e w' => e = .returned (.bool (clkOK l xs)) ∧ Below w.heap.size w w' := by
  cases hg : boGoodM l with
  | false =>
    have HV : Hid (clkOK l xs = false) := by rw [Hid, clkOK, hg]; rfl
    have hgo := fun w => boGood_any l w hl
    rw [hg] at hgo
    clear hg
    go_enter Tryd.func62, Tryd.ntmps62
    go_wp2_with fail
    refine (hgo _).mono ?_
    rintro e w1 ⟨rfl, hb1⟩
    go_wp2_with fail
    go_ret
    exact ⟨by rw [HV.out]; rfl, hb1⟩
  | true =>
    have hgo := fun w => boGood_any l w hl
    rw [hg] at hgo
    by_cases h64 : xs.length ≤ 64
    · have HV := Lib.hid (clk_short hg h64)
      clear hg
      go_enter Tryd.func62, Tryd.ntmps62
      go_wp2_with fail
      refine (hgo _).mono ?_
      rintro e w1 ⟨rfl, hb1⟩
      go_wp2_with fail
      go_loopw [17] (fun i wr => ∃ k : Nat, k ≤ xs.length ∧ i = .int .i64 k ∧ Below w.heap.size w wr ∧ Hid (xs.all (freeOK l) = (xs.drop k).all (freeOK l))) (fun i _ => xs.length - (intOf i).toNat)
      case atStart => exact ⟨0, Nat.zero_le _, rfl, hb1, by simp [Hid]⟩
      case round =>
        obtain ⟨k, hk, rfl, hbr, hR⟩ := hrel
        by_cases hlt : k < xs.length
        · have Ht := Lib.hid (List.drop_eq_getElem_cons hlt)
          obtain ⟨b, off, he, hc⟩ := ints_at (hat.below hat (Nat.le_refl _) hbr) k hlt
          subst he
          have hof := fun w => opFree_any l xs[k] w hl
          cases hf : freeOK l xs[k] with
          | true =>
            rw [hf] at hof
            have HF := Lib.hid hf
            clear hf
            go_wp2_with fail
            refine (hof _).mono ?_
            rintro e w2 ⟨rfl, hb2⟩
            go_wp2_with fail
            go_roundw
            case rel => exact ⟨k + 1, by omega, by go_num, hbr.trans (hb2.mono hbr.size), by rw [Hid, hR.out, Ht.out, List.all_cons, HF.out]; rfl⟩
            case measure => simp [intOf]; omega
          | false =>
            rw [hf] at hof
            have HF := Lib.hid hf
            clear hf
            go_wp2_with fail
            refine (hof _).mono ?_
            rintro e w2 ⟨rfl, hb2⟩
            go_wp2_with fail
            go_ret
            exact ⟨by rw [HV.out, hR.out, Ht.out, List.all_cons, HF.out]; rfl, hbr.trans (hb2.mono hbr.size)⟩
        · obtain rfl : k = xs.length := by omega
          go_wp2_with fail
          go_ret
          exact ⟨by rw [HV.out, hR.out]; simp, hbr⟩
    · have HV : Hid (clkOK l xs = false) := by rw [Hid, clkOK, hg]; simp [h64]
      have h64' : 64 < xs.length := by omega
      clear hg h64
      go_enter Tryd.func62, Tryd.ntmps62
      go_wp2_with fail
      refine (hgo _).mono ?_
      rintro e w1 ⟨rfl, hb1⟩
      go_wp2_with fail
      go_ret
      exact ⟨by rw [HV.out]; rfl, hb1⟩
end Go.Proofs.YtndmkbkmfonefacDoor
