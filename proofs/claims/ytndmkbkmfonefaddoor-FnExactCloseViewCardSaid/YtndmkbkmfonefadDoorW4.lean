/- Views: whether a text is one, and its hidden cells, by the program and by the model. -/
import Derived.Test.YtndmkbkmfonefadDoorW3
import Derived.Outline
namespace Go.Proofs.YtndmkbkmfonefadDoor
open Go.RowKit

theorem view_yes {l : List UInt8} (h : viewM l = true) : gridM viewSign l = true ∧ vC l = cellsM l ∧ (hidM (cellsM l)).length ≤ 14 := by
  have h2 := h
  unfold viewM at h2
  rw [Bool.and_eq_true, hid_places, decide_eq_true_iff] at h2
  exact ⟨h2.1, by rw [vC, if_pos h, grC, if_pos h2.1], h2.2⟩
theorem vC_none {l : List UInt8} (h : viewM l = false) : vC l = [] := by rw [vC, if_neg (by rw [h]; decide)]
theorem vC_le (l : List UInt8) : (vC l).length ≤ 64 := by
  unfold vC
  split
  · exact grC_le _ _
  · simp
def hidV (l : List UInt8) : List Nat := hidM (vC l)
theorem hidV_len (l : List UInt8) : (hidV l).length ≤ 1048576 := by
  have := filtM_le (unsB (vC l)) (vC l).length
  have := vC_le l
  unfold hidV hidM; omega

theorem sIsView_any (l : List UInt8) (w : World) (hl : l.length ≤ 1048576) :
    Calls Tryd.prog 25 #[.string ⟨l.toArray⟩] w fun e w' => e = .returned (.bool (viewM l)) ∧ Below w.heap.size w w' := by
  go_enter Tryd.func25, Tryd.ntmps25
  go_wp2_with (go_at_call 53; refine (viGood_any l _ hl).mono ?_; rintro e w1 ⟨rfl, hb⟩)
  go_ret
  exact ⟨rfl, hb⟩
set_option maxRecDepth 100000 in
theorem iIsView_any (l : List UInt8) (w : World) (hM : HasMax w) (hl : l.length ≤ 1048576) :
    Calls Tryd.prog 26 #[.string ⟨l.toArray⟩] w fun e w' => e = .returned (.bool (viewM l)) ∧ Below w.heap.size w w' := by
  go_enter Tryd.func26, Tryd.ntmps26
  go_wp2_with fail
  refine (readView_any l _ hM hl).mono ?_
  rintro e w1 ⟨a, c, ah, ch, an, cn, rfl, ho1, ho2, ho3, hb⟩
  go_wp2_with fail
  go_ret
  exact ⟨rfl, hb.alloc hb.size _⟩

set_option maxRecDepth 100000 in
theorem sHiddenCells_any (l : List UInt8) (w : World) (hl : l.length ≤ 1048576) :
    Calls Tryd.prog 27 #[.string ⟨l.toArray⟩] w fun e w' => ∃ a cap, e = .returned (.tuple #[.slice a (hidV l).length cap, .bool (viewM l)]) ∧ Owns w' w.heap.size 3 (.slice a (hidV l).length cap) (nats (hidV l)) ∧ Below w.heap.size w w' := by
  have h1 := fun w => viGood_any l w hl
  cases hv : viewM l with
  | false =>
    rw [hv] at h1
    have HC := Lib.hid (vC_none hv)
    clear hv
    go_enter Tryd.func27, Tryd.ntmps27
    go_wp2_with fail
    refine (h1 _).mono ?_
    rintro e w1 ⟨rfl, hb⟩
    go_wp2_with fail
    go_ret2
    exact ⟨none, 0, by rw [hidV, HC.out]; rfl, by rw [hidV, HC.out]; exact Owns.nil _ _ _, hb⟩
  | true =>
    rw [hv] at h1
    have HC := Lib.hid (view_yes hv).2.1
    have HP := Lib.hid (hid_places (cellsM l))
    clear hv
    have hcl := cellsM_le l
    go_enter Tryd.func27, Tryd.ntmps27
    go_wp2_with fail
    refine (h1 _).mono ?_
    rintro e w1 ⟨rfl, hb⟩
    go_wp2_with fail
    refine (boCells_any l _ hl).mono ?_
    rintro e w1' ⟨rfl, rfl⟩
    go_wp2_with fail
    refine (boMines_any (cellsM l) 63 _ rfl _ (by omega)).mono ?_
    rintro e w2 ⟨a, cap, rfl, hown, hb2⟩
    rw [HP.out] at hown ⊢
    go_wp2_with fail
    go_ret2
    exact ⟨a, cap, by rw [hidV, HC.out]; rfl, by rw [hidV, HC.out]; exact hown.mono hb.size, hb.trans (hb2.mono hb.size)⟩
set_option maxRecDepth 100000 in
theorem iHiddenCells_any (l : List UInt8) (w : World) (hM : HasMax w) (hl : l.length ≤ 1048576) :
    Calls Tryd.prog 28 #[.string ⟨l.toArray⟩] w fun e w' => ∃ a cap, e = .returned (.tuple #[.slice a (hidV l).length cap, .bool (viewM l)]) ∧ Owns w' w.heap.size 3 (.slice a (hidV l).length cap) (nats (hidV l)) ∧ Below w.heap.size w w' := by
  go_enter Tryd.func28, Tryd.ntmps28
  go_wp2_with fail
  refine (readView_any l _ hM hl).mono ?_
  rintro e w1 ⟨a, c, ah, ch, an, cn, rfl, ho1, ho2, ho3, hb⟩
  go_wp2_with fail
  go_ret2
  exact ⟨ah, ch, rfl, ho2.later ((Below.refl _ _).alloc (Nat.le_refl _) _), hb.alloc hb.size _⟩
end Go.Proofs.YtndmkbkmfonefadDoor
