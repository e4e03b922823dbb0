/- Notes: their unknown cells, the unknown neighbours of a cell, whether none is unknown: by the program and by the model. -/
import Derived.Test.YthlbplmghjaeoaaDoorC6
import Derived.Test.YthlbplmghjaeoaaDoorN4
import Derived.Outline
namespace Go.Proofs.YthlbplmghjaeoaaDoor
open Go.RowKit

/-- What the functions hand back. -/
def unkOf (l : List UInt8) : List Nat := hidM (grC noteSign l)
def dnOK (l : List UInt8) : Bool := gridM noteSign l && (maskM (hidM (grC noteSign l)) == 0)
def unOf (l : List UInt8) (c : Int) : List Nat := if inC (grC noteSign l).length c = true then nrS (grC noteSign l) (grW noteSign l) c.toNat 63 else []
theorem unkOf_len (l : List UInt8) : (unkOf l).length ≤ 1048576 := Nat.le_trans (filtM_le _ _) (Nat.le_trans (grC_le noteSign l) (by decide))
theorem unOf_len (l : List UInt8) (c : Int) : (unOf l c).length ≤ 1048576 := by
  unfold unOf
  split
  · exact Nat.le_trans (nrS_le _ _ _ _) (Nat.le_trans (grC_le noteSign l) (by decide))
  · simp
theorem mask_nil {cells : List UInt8} (h : cells.length ≤ 64) : maskM (hidM cells) = 0 ↔ (hidM cells).length = 0 := by
  rw [← bitsM_nil (hidM_mlt h), hidM_mask h, List.length_eq_zero_iff]
theorem grC_none {p : UInt8 → Bool} {l : List UInt8} (h : gridM p l = false) : grC p l = [] := by rw [grC, h]; rfl

/-- What is known of the library's variables. -/
structure HasLib (w : World) : Prop where
  max : HasMax w
  tab : HasTab w
theorem HasLib.later {w w' : World} (h : HasLib w) (hb : Below w.heap.size w w') : HasLib w' := ⟨h.max.later hb, h.tab.later hb⟩

set_option maxRecDepth 100000 in
set_option maxHeartbeats 800000 in
theorem iUnknownOf_any (l : List UInt8) (w : World) (hM : HasLib w) (hl : l.length ≤ 1048576) :
    Calls Tryd.prog 26 #[.string ⟨l.toArray⟩] w fun e w' => ∃ a cap, e = .returned (.tuple #[.slice a (unkOf l).length cap, .bool (gridM noteSign l)]) ∧ Owns w' w.heap.size 3 (.slice a (unkOf l).length cap) (nats (unkOf l)) ∧ Below w.heap.size w w' := by
  have h64 := grC_le noteSign l
  have HK := Lib.hid (hidM_mask h64)
  have HU : Hid (unkOf l = hidM (grC noteSign l)) := rfl
  have HN := Lib.hid (fun w => unknown_any (grW noteSign l) (grH noteSign l) (grC noteSign l) w h64)
  have hlt := hidM_mlt h64
  go_enter Tryd.func26, Tryd.ntmps26
  go_wp2_with fail
  refine (readNotes_any l _ hM.max hl).mono ?_
  rintro e w1 ⟨rfl, hb⟩
  unfold ntV at *
  have s1 := hb.size
  have hba : Below w.heap.size w (w1.alloc (.cells #[.int .i64 (grW noteSign l), .int .i64 (grH noteSign l), .string ⟨(grC noteSign l).toArray⟩] 84)) := hb.alloc s1 _
  go_wp2_with fail
  refine (HN.out _).mono ?_
  rintro e w2 ⟨rfl, hb2⟩
  have hbw := hba.trans (hb2.mono (by simp; omega))
  have HA := Lib.hid (areaCells_any _ w2 (hM.tab.later hbw) hlt)
  rw [HK.out] at HA
  have s2 := hbw.size
  go_wp2_with fail
  refine HA.out.mono ?_
  rintro e w3 ⟨a, cap, rfl, hown, hb3⟩
  go_wp2_with fail
  go_ret2
  exact ⟨a, cap, by rw [HU.out]; rfl, by rw [HU.out]; exact hown.mono s2, hbw.trans (hb3.mono s2)⟩



set_option maxRecDepth 100000 in
theorem sUnknownOf_any (l : List UInt8) (w : World) (hl : l.length ≤ 1048576) :
    Calls Tryd.prog 25 #[.string ⟨l.toArray⟩] w fun e w' => ∃ a cap, e = .returned (.tuple #[.slice a (unkOf l).length cap, .bool (gridM noteSign l)]) ∧ Owns w' w.heap.size 3 (.slice a (unkOf l).length cap) (nats (unkOf l)) ∧ Below w.heap.size w w' := by
  have h1 := fun w => ruGood_any l w hl
  cases hg : gridM noteSign l with
  | true =>
    rw [hg] at h1
    have HU : Hid (unkOf l = places 63 (cellsM l)) := by rw [Hid, unkOf, grC, if_pos hg, hid_places]
    clear hg
    have hcl : (cellsM l).length ≤ 1048576 := Nat.le_trans (cellsM_le l) hl
    go_enter Tryd.func25, Tryd.ntmps25
    go_wp2_with fail
    refine (h1 _).mono ?_
    rintro e w1 ⟨rfl, hb⟩
    go_wp2_with fail
    refine (boCells_any l _ hl).mono ?_
    rintro e w2 ⟨rfl, rfl⟩
    go_wp2_with fail
    refine (boMines_any (cellsM l) 63 _ rfl _ hcl).mono ?_
    rintro e w2 ⟨a, cap, rfl, hown, hb2⟩
    go_wp2_with fail
    go_ret2
    exact ⟨a, cap, by rw [HU.out]; rfl, by rw [HU.out]; exact hown.mono hb.size, hb.trans (hb2.mono hb.size)⟩
  | false =>
    rw [hg] at h1
    have HU : Hid (unkOf l = []) := by rw [Hid, unkOf, grC_none hg]; rfl
    clear hg
    go_enter Tryd.func25, Tryd.ntmps25
    go_wp2_with (go_at_call 54; refine (h1 _).mono ?_; rintro e w1 ⟨rfl, hb⟩)
    go_ret2
    exact ⟨none, 0, by rw [HU.out]; rfl, by rw [HU.out]; exact Owns.nil _ _ _, hb⟩

end Go.Proofs.YthlbplmghjaeoaaDoor
