/- Walks: neighbours, the number of a cell and all numbers, by the model and by the program. -/
import Derived.Test.YtndmkbkmfonefadDoorN5
import Derived.Test.YtndmkbkmfonefadDoorE
import Derived.Outline
namespace Go.Proofs.YtndmkbkmfonefadDoor
open Go.RowKit

/-- Whether there are a board and a cell. -/
def cellOK (l : List UInt8) (c : Int) : Bool := boGoodM l && inB c 0 ((cellsM l).length - 1)
theorem cellOK_yes {l : List UInt8} {c : Int} (h : cellOK l c = true) : boGoodM l = true ∧ ∃ k : Nat, c = k ∧ k < (cellsM l).length := by
  simp [cellOK, inB] at h
  exact ⟨h.1, c.toNat, by omega, by omega⟩
theorem cells_le72 {l : List UInt8} (h : boGoodM l = true) : (cellsM l).length ≤ 64 := (Brd.of h).n64

set_option maxRecDepth 100000 in
theorem boCell_any (l : List UInt8) (c : Int) (w : World) (hl : l.length ≤ 1048576) :
    Calls Tryd.prog 93 #[.string ⟨l.toArray⟩, .int .i64 c] w fun e w' => e = .returned (.bool (cellOK l c)) ∧ Below w.heap.size w w' := by
  by_cases hg : boGoodM l = true
  · have h64 := cells_le72 hg
    have hH : Hid (cellOK l c = inB c 0 ((cellsM l).length - 1)) := by rw [Hid, cellOK, hg]; simp
    go_enter Tryd.func93, Tryd.ntmps93
    go_wp2_with fail
    refine (boGood_any l _ hl).mono ?_
    rintro e w1 ⟨rfl, hb⟩
    go_wp2_with fail
    refine (boCells_any l _ hl).mono ?_
    rintro e w1' ⟨rfl, rfl⟩
    go_wp2_with (go_at_call 70; refine (l1In_any _ _ _ _).mono ?_; rintro e w' ⟨rfl, rfl⟩)
    go_ret
    exact ⟨by rw [hH.out]; rfl, hb⟩
  · have hg' : boGoodM l = false := by simpa using hg
    have hH : Hid (cellOK l c = false) := by rw [Hid, cellOK, hg']; simp
    clear hg
    go_enter Tryd.func93, Tryd.ntmps93
    go_wp2_with (go_at_call 55; refine (boGood_any l _ hl).mono ?_; rintro e w1 ⟨rfl, hb⟩)
    go_ret
    exact ⟨by rw [hH.out]; rfl, hb⟩

theorem cellOK_in (l : List UInt8) (c : Int) : cellOK l c = inC (gCells l).length c := by
  unfold cellOK gCells inC inB
  by_cases h : boGoodM l = true
  · rw [if_pos h, h]
    have e : decide (c ≤ ((cellsM l).length : Int) - 1) = decide (c < ((cellsM l).length : Int)) := by
      apply decide_eq_decide.2; omega
    rw [e]; simp
  · have h' : boGoodM l = false := by simpa using h
    rw [h']
    by_cases q : 0 ≤ c
    · have : ¬ c < 0 := by omega
      simp [this]
    · simp [q]

end Go.Proofs.YtndmkbkmfonefadDoor
