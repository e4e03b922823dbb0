/- Strips: whether a list fits, by the model. -/
import Derived.Test.YthlbplmghjaeoaeHO
namespace Go.Proofs.Ythlbplmghjaeoae
open Go.RowKit

/-- A strip and a list of mines of as many cells. -/
def dfB (s b : List UInt8) : Bool := stM s && (mlM b && decide (s.length = b.length))
def dfV (s b : List UInt8) : Bool := dfB s b && ftM s b
set_option maxRecDepth 100000 in
set_option maxHeartbeats 1600000 in
theorem stBoth_any (s b : List UInt8) (w : World) (hs : s.length ≤ 1048576) (hb : b.length ≤ 1048576) :
    Calls Try.prog 54 #[.string ⟨s.toArray⟩, .string ⟨b.toArray⟩] w fun e w' => e = .returned (.bool (dfB s b)) ∧ Below w.heap.size w w' := by
  have hgd := fun w => stGood_any s w hs
  have hli := fun w => stList_any b w hb
  have HD : Hid (dfB s b = (stM s && (mlM b && decide (s.length = b.length)))) := rfl
  cases h1 : stM s with
  | false =>
    rw [h1] at hgd
    have HG := Lib.hid hgd
    have HR : Hid (dfB s b = false) := by rw [Hid, HD.out, h1]; rfl
    clear hgd hli h1
    go_enter Try.func54, Try.ntmps54
    go_wp2_with fail
    refine (HG.out _).mono ?_
    rintro e w1 ⟨rfl, hb1⟩
    go_wp2_with fail
    go_ret
    exact ⟨by rw [HR.out]; rfl, hb1⟩
  | true =>
    cases h2 : mlM b with
    | false =>
      rw [h1] at hgd
      rw [h2] at hli
      have HG := Lib.hid hgd
      have HL := Lib.hid hli
      have HR : Hid (dfB s b = false) := by rw [Hid, HD.out, h1, h2]; rfl
      clear hgd hli h1 h2
      go_enter Try.func54, Try.ntmps54
      go_wp2_with fail
      refine (HG.out _).mono ?_
      rintro e w1 ⟨rfl, hb1⟩
      go_wp2_with fail
      refine (HL.out _).mono ?_
      rintro e w2 ⟨rfl, hb2⟩
      go_wp2_with fail
      go_ret
      exact ⟨by rw [HR.out]; rfl, hb1.trans (hb2.mono hb1.size)⟩
    | true =>
      rw [h1] at hgd
      rw [h2] at hli
      have HG := Lib.hid hgd
      have HL := Lib.hid hli
      by_cases h3 : s.length = b.length
      · have hz : ((s.length : Int) == (b.length : Int)) = true := by rw [beq_iff_eq]; omega
        have HR : Hid (dfB s b = true) := by rw [Hid, HD.out, h1, h2, decide_eq_true h3]; rfl
        clear hgd hli h1 h2 h3
        go_enter Try.func54, Try.ntmps54
        go_wp2_with fail
        refine (HG.out _).mono ?_
        rintro e w1 ⟨rfl, hb1⟩
        go_wp2_with fail
        refine (HL.out _).mono ?_
        rintro e w2 ⟨rfl, hb2⟩
        go_wp2_with fail
        go_ret
        exact ⟨by rw [HR.out]; rfl, hb1.trans (hb2.mono hb1.size)⟩
      · have hz : ((s.length : Int) == (b.length : Int)) = false := by rw [beq_eq_false_iff_ne]; omega
        have HR : Hid (dfB s b = false) := by rw [Hid, HD.out, h1, h2, decide_eq_false h3]; rfl
        clear hgd hli h1 h2 h3
        go_enter Try.func54, Try.ntmps54
        go_wp2_with fail
        refine (HG.out _).mono ?_
        rintro e w1 ⟨rfl, hb1⟩
        go_wp2_with fail
        refine (HL.out _).mono ?_
        rintro e w2 ⟨rfl, hb2⟩
        go_wp2_with fail
        go_ret
        exact ⟨by rw [HR.out]; rfl, hb1.trans (hb2.mono hb1.size)⟩

set_option maxRecDepth 100000 in
set_option maxHeartbeats 1600000 in
theorem sDoesFitStrip_any (s b : List UInt8) (w : World) (hs : s.length ≤ 1048576) (hb : b.length ≤ 1048576) :
    Calls Try.prog 24 #[.string ⟨s.toArray⟩, .string ⟨b.toArray⟩] w fun e w' => e = .returned (.tuple #[.bool (dfV s b), .bool (dfB s b)]) ∧ Below w.heap.size w w' := by
  have hbo := fun w => stBoth_any s b w hs hb
  have HV : Hid (dfV s b = (dfB s b && ftM s b)) := rfl
  cases h1 : dfB s b with
  | false =>
    rw [h1] at hbo
    have HB := Lib.hid hbo
    have HR : Hid (dfV s b = false) := by rw [Hid, HV.out, h1]; rfl
    clear hbo h1
    rw [HR.out]
    go_enter Try.func24, Try.ntmps24
    go_wp2_with fail
    refine (HB.out _).mono ?_
    rintro e w1 ⟨rfl, hb1⟩
    go_wp2_with fail
    go_ret2
    exact ⟨rfl, hb1⟩
  | true =>
    rw [h1] at hbo
    have HB := Lib.hid hbo
    have h2 : stM s = true ∧ s.length = b.length := by
      rw [dfB] at h1
      simp at h1
      exact ⟨h1.1, h1.2.2⟩
    have HF := Lib.hid fun w => stFits_any s b h2.1 h2.2.symm w
    have HR : Hid (dfV s b = ftM s b) := by rw [Hid, HV.out, h1]; rfl
    clear hbo h1 h2
    rw [HR.out]
    go_enter Try.func24, Try.ntmps24
    go_wp2_with fail
    refine (HB.out _).mono ?_
    rintro e w1 ⟨rfl, hb1⟩
    go_wp2_with fail
    refine (HF.out _).mono ?_
    rintro e w2 ⟨rfl, hb2⟩
    go_wp2_with fail
    go_ret2
    exact ⟨rfl, hb1.trans (hb2.mono hb1.size)⟩
end Go.Proofs.Ythlbplmghjaeoae
