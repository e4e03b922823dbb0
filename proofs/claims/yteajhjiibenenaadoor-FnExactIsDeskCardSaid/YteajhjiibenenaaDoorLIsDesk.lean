/- The law of IsDesk, walked: at all arguments the program answers as the model. -/
import Derived.Test.YteajhjiibenenaaDoorP2
namespace Go.Proofs.YteajhjiibenenaaDoor
open Go.RowKit

set_option maxRecDepth 100000 in
set_option maxHeartbeats 1600000 in
theorem law_IsDesk (l m : List UInt8) (w : World) (hM : HasMax w) (hl : l.length ≤ 9223372036854775807) (hm : m.length ≤ 9223372036854775807) :
    Calls Tryd.prog 7 #[.agg #[.string ⟨l.toArray⟩, .string ⟨m.toArray⟩]] w fun e w' => e = .returned (.bool true) ∧ Below w.heap.size w w' := by
  have hb : Below w.heap.size w (w.alloc (.cells #[.string ⟨l.toArray⟩, .string ⟨m.toArray⟩] 48)) := (Below.refl _ _).alloc (Nat.le_refl _) _
  have hG := heap_alloc_new w (.cells #[.string ⟨l.toArray⟩, .string ⟨m.toArray⟩] 48)
  by_cases h : l.length + m.length ≤ 1048576
  · have HZ := Lib.hid (fun w => szDesk_yes l m w h)
    have HT := Lib.hid (fun w => toDesk_any l m w)
    have HS := Lib.hid (fun w => sIsDesk_any l m w (by omega) (by omega))
    have HI := Lib.hid (fun w hM => iIsDesk_any l m w hM (by omega) (by omega))
    have c2 : ¬ (1048576 - (l.length : Int) - (m.length : Int) < 0) := by omega
    have hd : ∀ b : Bool, (b != b) = false := fun b => by cases b <;> rfl
    generalize (dfOK m l && dfM m l) = q at *
    have HMX := Lib.hid (hM.later hb)
    have HG := Lib.hid hG
    clear h hM hG
    go_enter Tryd.func7, Tryd.ntmps7
    go_wp2_with fail
    generalize w.alloc (.cells #[.string ⟨l.toArray⟩, .string ⟨m.toArray⟩] 48) = w0 at *
    refine (HZ.out _).mono ?_
    rintro e w1 ⟨rfl, hb1⟩
    have hB1 := hb.trans (hb1.mono hb.size)
    have HG1 := Lib.hid ((hb1.block _ (block_lt HG.out)).trans HG.out)
    have HM1 := Lib.hid (HMX.out.later hb1)
    clear hb hb1 HG HMX
    have f0 := cell_of_block HG1.out 0
    have f1 := cell_of_block HG1.out 1
    simp at f0 f1
    go_wp2_with fail
    refine (HT.out _).mono ?_
    rintro e w2 ⟨rfl, hb2⟩
    have hB2 := hB1.trans (hb2.mono hB1.size)
    have HG2 := Lib.hid ((hb2.block _ (block_lt HG1.out)).trans HG1.out)
    have HM2 := Lib.hid (HM1.out.later hb2)
    clear hB1 hb2 HG1 HM1 f0 f1
    go_wp2_with fail
    refine (HS.out _).mono ?_
    rintro e w3 ⟨rfl, hb3⟩
    have hB3 := hB2.trans (hb3.mono hB2.size)
    have HG3 := Lib.hid ((hb3.block _ (block_lt HG2.out)).trans HG2.out)
    have HM3 := Lib.hid (HM2.out.later hb3)
    clear hB2 hb3 HG2 HM2
    have f0 := cell_of_block HG3.out 0
    have f1 := cell_of_block HG3.out 1
    simp at f0 f1
    go_wp2_with fail
    refine (HT.out _).mono ?_
    rintro e w4 ⟨rfl, hb4⟩
    have hB4 := hB3.trans (hb4.mono hB3.size)
    have HM4 := Lib.hid (HM3.out.later hb4)
    clear hB3 hb4 HG3 HM3 f0 f1
    go_wp2_with fail
    refine (HI.out _ HM4.out).mono ?_
    rintro e w5 ⟨rfl, hb5⟩
    have hB5 := hB4.trans (hb5.mono hB4.size)
    clear hB4 hb5 HM4
    go_wp2_with fail
    go_ret
    exact ⟨rfl, hB5⟩
  · have HZ := Lib.hid (fun w => szDesk_no l m w (by omega) hl hm)
    clear h hG
    go_enter Tryd.func7, Tryd.ntmps7
    go_wp2_with fail
    refine (HZ.out _).mono ?_
    rintro e w1 ⟨rfl, hb1⟩
    have hB1 := hb.trans (hb1.mono hb.size)
    clear hb hb1
    go_wp2_with fail
    go_ret
    exact ⟨rfl, hB1⟩
end Go.Proofs.YteajhjiibenenaaDoor
