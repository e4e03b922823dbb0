/- Two boards beside each other: the model in any case. -/
import Derived.Test.YtndmkbkmfonefabDoorYV
import Derived.Outline
namespace Go.Proofs.YtndmkbkmfonefabDoor
open Go.RowKit

set_option maxRecDepth 100000 in
set_option maxHeartbeats 1600000 in
theorem sBeside_no (l r : List UInt8) (w : World) (hl : l.length ≤ 1048576) (hr : r.length ≤ 1048576) (hno : ¬ (boGoodM l = true ∧ boGoodM r = true ∧ (splitB 47 l).length = (splitB 47 r).length)) :
    Calls Tryd.prog 21 #[.string ⟨l.toArray⟩, .string ⟨r.toArray⟩] w fun e w' => e = .returned (.tuple #[.string ⟨(besM l r).toArray⟩, .bool (besOK l r)]) ∧ Below w.heap.size w w' := by
  have hno' : ¬ (boGoodM l = true ∧ boGoodM r = true ∧ gH l = gH r ∧ gW l + gW r ≤ 8) := by
    rintro ⟨h1, h2, h3, _⟩
    refine hno ⟨h1, h2, ?_⟩
    obtain ⟨_, a2, _⟩ := (Brd.of h1).grid
    obtain ⟨_, b2, _⟩ := (Brd.of h2).grid
    rw [← a2, ← b2, h3]
  obtain ⟨b1, b2⟩ := bes_no hno'
  have B1 := Lib.hid b1
  have B2 := Lib.hid b2
  have qa := fun w => boGood_any l w hl
  have qb := fun w => boGood_any r w hr
  have pa := fun w => l1Split_any l 47 _ rfl w hl
  have pb := fun w => l1Split_any r 47 _ rfl w hr
  have key : (boGoodM l = false) ∨ (boGoodM l = true ∧ boGoodM r = false) ∨ (boGoodM l = true ∧ boGoodM r = true ∧ ¬ (splitB 47 l).length = (splitB 47 r).length) := by
    by_cases h1 : boGoodM l = true
    · by_cases h2 : boGoodM r = true
      · exact .inr (.inr ⟨h1, h2, fun h => hno ⟨h1, h2, h⟩⟩)
      · exact .inr (.inl ⟨h1, by simpa using h2⟩)
    · exact .inl (by simpa using h1)
  clear hno hno' b1 b2
  generalize boGoodM l = ga at *
  generalize boGoodM r = gb at *
  generalize splitB 47 l = A at *
  generalize splitB 47 r = B at *
  rcases key with rfl | ⟨rfl, rfl⟩ | ⟨rfl, rfl, hne⟩
  · go_enter Tryd.func21, Tryd.ntmps21
    go_wp2_with fail
    refine (qa _).mono ?_
    rintro e w1 ⟨rfl, hb1⟩
    go_wp2_with fail
    go_ret2
    exact ⟨by rw [B1.out, B2.out]; rfl, hb1⟩
  · go_enter Tryd.func21, Tryd.ntmps21
    go_wp2_with fail
    refine (qa _).mono ?_
    rintro e w1 ⟨rfl, hb1⟩
    go_wp2_with fail
    refine (qb _).mono ?_
    rintro e w2 ⟨rfl, hb2⟩
    go_wp2_with fail
    go_ret2
    exact ⟨by rw [B1.out, B2.out]; rfl, hb1.trans (hb2.mono hb1.size)⟩
  · have hd : ((A.length : Int) != (B.length : Int)) = true := by simp; omega
    go_enter Tryd.func21, Tryd.ntmps21
    go_wp2_with fail
    refine (qa _).mono ?_
    rintro e w1 ⟨rfl, hb1⟩
    go_wp2_with fail
    refine (qb _).mono ?_
    rintro e w2 ⟨rfl, hb2⟩
    go_wp2_with fail
    refine (pa _).mono ?_
    rintro e w3 ⟨a1, c1, rfl, ho1, hb3⟩
    go_wp2_with fail
    refine (pb _).mono ?_
    rintro e w4 ⟨a2, c2, rfl, ho2, hb4⟩
    have s1 := hb1.size
    have s2 := hb2.size
    have s3 := hb3.size
    have hbw : Below w.heap.size w w4 := ((hb1.trans (hb2.mono (by omega))).trans (hb3.mono (by omega))).trans (hb4.mono (by omega))
    clear ho1 ho2 hb1 hb2 hb3 hb4 s1 s2 s3 qa qb pa pb
    go_wp2_with fail
    go_ret2
    exact ⟨by rw [B1.out, B2.out]; rfl, hbw⟩

theorem sBesideBoard_any (l r : List UInt8) (w : World) (hl : l.length ≤ 1048576) (hr : r.length ≤ 1048576) :
    Calls Tryd.prog 21 #[.string ⟨l.toArray⟩, .string ⟨r.toArray⟩] w fun e w' => e = .returned (.tuple #[.string ⟨(besM l r).toArray⟩, .bool (besOK l r)]) ∧ Below w.heap.size w w' := by
  by_cases h : boGoodM l = true ∧ boGoodM r = true ∧ (splitB 47 l).length = (splitB 47 r).length
  · exact sBeside_same l r w hl hr h.1 h.2.1 h.2.2
  · exact sBeside_no l r w hl hr h
end Go.Proofs.YtndmkbkmfonefabDoor
