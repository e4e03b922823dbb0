/- Notes: their unknown cells, the unknown neighbours of a cell, whether none is unknown: by the program and by the model. -/
import Derived.Test.YthlbplmghjaeoabDoorC6
import Derived.Test.YthlbplmghjaeoabDoorGN1
import Derived.Outline
namespace Go.Proofs.YthlbplmghjaeoabDoor
open Go.RowKit

/-- What the functions hand back. -/
def unkOf (l : List UInt8) : List Nat := hidM (grC noteSign l)
def dnOK (l : List UInt8) : Bool := gridM noteSign l && (maskM (hidM (grC noteSign l)) == 0)
def unOf (l : List UInt8) (c : Int) : List Nat := if inC (grC noteSign l).length c = true then nrS (grC noteSign l) (grW noteSign l) c.toNat 63 else []
theorem unkOf_len (l : List UInt8) : (unkOf l).length ≤ 1048576 := Nat.le_trans (filtM_le _ _) (Nat.le_trans (grC_le noteSign l) (by decide))
theorem unOf_len (l : List UInt8) (c : Int) : (unOf l c).length ≤ 1048576 := by
  unfold unOf
  split
  · exact Nat.le_trans (nrS_le _ _ _ _) (Nat.le_trans (grC_le noteSign l) (by decide))
  · simp
theorem mask_nil {cells : List UInt8} (h : cells.length ≤ 64) : maskM (hidM cells) = 0 ↔ (hidM cells).length = 0 := by
  rw [← bitsM_nil (hidM_mlt h), hidM_mask h, List.length_eq_zero_iff]
theorem grC_none {p : UInt8 → Bool} {l : List UInt8} (h : gridM p l = false) : grC p l = [] := by rw [grC, h]; rfl

/-- What is known of the library's variables. -/
structure HasLib (w : World) : Prop where
  max : HasMax w
  tab : HasTab w
theorem HasLib.later {w w' : World} (h : HasLib w) (hb : Below w.heap.size w w') : HasLib w' := ⟨h.max.later hb, h.tab.later hb⟩


set_option maxRecDepth 100000 in
set_option maxHeartbeats 800000 in
theorem iIsDone_any (l : List UInt8) (w : World) (hM : HasMax w) (hl : l.length ≤ 1048576) :
    Calls Tryd.prog 12 #[.string ⟨l.toArray⟩] w fun e w' => e = .returned (.tuple #[.bool (dnOK l), .bool (gridM noteSign l)]) ∧ Below w.heap.size w w' := by
  have h64 := grC_le noteSign l
  have HN := Lib.hid (fun w => unknown_any (grW noteSign l) (grH noteSign l) (grC noteSign l) w h64)
  have hr := fun w hM => readNotes_any l w hM hl
  cases hg : gridM noteSign l with
  | true =>
    rw [hg] at hr
    have HD : Hid (dnOK l = ((maskM (hidM (grC noteSign l)) : Int) == 0)) := by
      rw [Hid, dnOK, hg, Bool.true_and]
      apply Bool.eq_iff_iff.2
      simp
    clear hg
    go_enter Tryd.func12, Tryd.ntmps12
    go_wp2_with fail
    refine (hr _ hM).mono ?_
    rintro e w1 ⟨rfl, hb⟩
    unfold ntV at *
    have s1 := hb.size
    have hba : Below w.heap.size w (w1.alloc (.cells #[.int .i64 (grW noteSign l), .int .i64 (grH noteSign l), .string ⟨(grC noteSign l).toArray⟩] 44)) := hb.alloc s1 _
    go_wp2_with fail
    refine (HN.out _).mono ?_
    rintro e w2 ⟨rfl, hb2⟩
    have hbw := hba.trans (hb2.mono (by simp; omega))
    go_wp2_with fail
    go_ret2
    exact ⟨by rw [HD.out]; rfl, hbw⟩
  | false =>
    rw [hg] at hr
    have HD : Hid (dnOK l = false) := by rw [Hid, dnOK, hg]; rfl
    clear hg
    go_enter Tryd.func12, Tryd.ntmps12
    go_wp2_with fail
    refine (hr _ hM).mono ?_
    rintro e w1 ⟨rfl, hb⟩
    unfold ntV at *
    have s1 := hb.size
    go_wp2_with fail
    go_ret2
    exact ⟨by rw [HD.out]; rfl, hb.alloc s1 _⟩

set_option maxRecDepth 100000 in
set_option maxHeartbeats 1600000 in
theorem iUnknownNear_any (l : List UInt8) (c : Int) (w : World) (hM : HasLib w) (hl : l.length ≤ 1048576) :
    Calls Tryd.prog 14 #[.string ⟨l.toArray⟩, .int .i64 c] w fun e w' => ∃ a cap, e = .returned (.tuple #[.slice a (unOf l c).length cap, .bool (inC (grC noteSign l).length c)]) ∧ Owns w' w.heap.size 3 (.slice a (unOf l c).length cap) (nats (unOf l c)) ∧ Below w.heap.size w w' := by
  have h64 := grC_le noteSign l
  have hW := grW_pos noteSign l
  have HN := Lib.hid (fun w => ngrid_any (grW noteSign l) (grH noteSign l) (grC noteSign l) w)
  have hhc := fun W H a cap w => hasCell_any (J := false) W H a (grC noteSign l).length cap c w
  have hcase : inC (grC noteSign l).length c = false ∨ ∃ k : Nat, c = k ∧ k < (grC noteSign l).length ∧ inC (grC noteSign l).length c = true := by
    by_cases h : 0 ≤ c ∧ c < (grC noteSign l).length
    · exact .inr ⟨c.toNat, by omega, by omega, by simp [inC]; omega⟩
    · exact .inl (by simp [inC]; omega)
  rcases hcase with hb | ⟨k, rfl, hk, hb⟩
  · have HU : Hid (unOf l c = []) := by rw [Hid, unOf, hb]; rfl
    rw [hb] at hhc
    have HB := Lib.hid hb
    clear hb
    go_enter Tryd.func14, Tryd.ntmps14
    go_wp2_with fail
    refine (readNotes_any l _ hM.max hl).mono ?_
    rintro e w1 ⟨rfl, hb1⟩
    unfold ntV at *
    have s1 := hb1.size
    have hba : Below w.heap.size w (w1.alloc (.cells #[.int .i64 (grW noteSign l), .int .i64 (grH noteSign l), .string ⟨(grC noteSign l).toArray⟩] 44)) := hb1.alloc s1 _
    go_wp2_with fail
    refine (HN.out _).mono ?_
    rintro e w2 ⟨a, cap, rfl, hown, hb2⟩
    have hbw := hba.trans (hb2.mono (by simp; omega))
    have s2 := hbw.size
    have hbw2 := hbw.alloc s2 (.cells #[.int .i64 (grW noteSign l), .int .i64 (grH noteSign l), .slice a (grC noteSign l).length cap, .bool false] 53)
    go_wp2_with fail
    refine (hhc _ _ _ _ _).mono ?_
    rintro e w3 ⟨rfl, hb3⟩
    go_wp2_with fail
    go_ret2
    exact ⟨none, 0, by rw [HU.out, HB.out]; rfl, by rw [HU.out]; exact Owns.nil _ _ _, hbw2.trans (hb3.mono (by simp; omega))⟩
  · have HU : Hid (unOf l k = nrS (grC noteSign l) (grW noteSign l) k 63) := by rw [Hid, unOf, if_pos hb]; rfl
    rw [hb] at hhc
    have HB := Lib.hid hb
    clear hb
    have HK := Lib.hid (nrS_mask (cells := grC noteSign l) (grW noteSign l) k 63 h64)
    have hlt := nrS_mlt (cells := grC noteSign l) (grW noteSign l) k 63 h64
    have HUN := Lib.hid (fun H a cap w h => unknownNear_any (grW noteSign l) H a (grC noteSign l) cap k w h (hW (by omega)) hk h64)
    go_enter Tryd.func14, Tryd.ntmps14
    go_wp2_with fail
    refine (readNotes_any l _ hM.max hl).mono ?_
    rintro e w1 ⟨rfl, hb1⟩
    unfold ntV at *
    have s1 := hb1.size
    have hba : Below w.heap.size w (w1.alloc (.cells #[.int .i64 (grW noteSign l), .int .i64 (grH noteSign l), .string ⟨(grC noteSign l).toArray⟩] 44)) := hb1.alloc s1 _
    go_wp2_with fail
    refine (HN.out _).mono ?_
    rintro e w2 ⟨a, cap, rfl, hown, hb2⟩
    have hbw := hba.trans (hb2.mono (by simp; omega))
    have s2 := hbw.size
    have hbx : Below w2.heap.size w2 (w2.alloc (.cells #[.int .i64 (grW noteSign l), .int .i64 (grH noteSign l), .slice a (grC noteSign l).length cap, .bool false] 53)) := (Below.refl _ _).alloc (Nat.le_refl _) _
    have hG : (w2.alloc (.cells #[.int .i64 (grW noteSign l), .int .i64 (grH noteSign l), .slice a (grC noteSign l).length cap, .bool false] 53)).heap[w2.heap.size]? = some (.cells #[.int .i64 (grW noteSign l), .int .i64 (grH noteSign l), .slice a (grC noteSign l).length cap, .bool false] 53 (0, 0)) := heap_alloc_new w2 _
    have hsx : w2.heap.size < (w2.alloc (.cells #[.int .i64 (grW noteSign l), .int .i64 (grH noteSign l), .slice a (grC noteSign l).length cap, .bool false] 53)).heap.size := by simp
    go_wp2_with fail
    generalize w2.alloc (.cells #[.int .i64 (grW noteSign l), .int .i64 (grH noteSign l), .slice a (grC noteSign l).length cap, .bool false] 53) = wx at *
    refine (hhc _ _ _ _ _).mono ?_
    rintro e w3 ⟨rfl, hb3⟩
    have hG3 := (hb3.block _ hsx).trans hG
    have hf0 := cell_of_block hG3 0
    have hf1 := cell_of_block hG3 1
    have hf2 := cell_of_block hG3 2
    have hf3 := cell_of_block hG3 3
    simp at hf0 hf1 hf2 hf3
    have hat3 := ((hown.later hbx).later hb3).at
    have hbw3 := (hbw.trans (hbx.mono s2)).trans (hb3.mono (by omega))
    clear hhc hG hG3 hb3 hbx hbw hba hb1 hb2
    go_wp2_with fail
    refine (HUN.out _ _ _ _ hat3).mono ?_
    rintro e w4 ⟨rfl, hb4⟩
    have hbw4 := hbw3.trans (hb4.mono hbw3.size)
    have HA := Lib.hid (areaCells_any _ w4 (hM.tab.later hbw4) hlt)
    rw [HK.out] at HA
    have s4 := hbw4.size
    go_wp2_with fail
    refine HA.out.mono ?_
    rintro e w5 ⟨a5, cap5, rfl, hown5, hb5⟩
    go_wp2_with fail
    go_ret2
    exact ⟨a5, cap5, by rw [HU.out, HB.out]; rfl, by rw [HU.out]; exact hown5.mono s4, hbw4.trans (hb5.mono s4)⟩


set_option maxRecDepth 100000 in
theorem sIsDone_any (l : List UInt8) (w : World) (hl : l.length ≤ 1048576) :
    Calls Tryd.prog 11 #[.string ⟨l.toArray⟩] w fun e w' => e = .returned (.tuple #[.bool (dnOK l), .bool (gridM noteSign l)]) ∧ Below w.heap.size w w' := by
  have h1 := fun w => ruGood_any l w hl
  have h64 := grC_le noteSign l
  cases hg : gridM noteSign l with
  | true =>
    rw [hg] at h1
    have HD : Hid (dnOK l = (((places 63 (cellsM l)).length : Int) == 0)) := by
      have e : places 63 (cellsM l) = hidM (grC noteSign l) := by rw [grC, if_pos hg, hid_places]
      rw [Hid, dnOK, hg, Bool.true_and, e]
      apply Bool.eq_iff_iff.2
      have := mask_nil h64
      simp only [beq_iff_eq]
      omega
    clear hg
    have hcl : (cellsM l).length ≤ 1048576 := Nat.le_trans (cellsM_le l) hl
    go_enter Tryd.func11, Tryd.ntmps11
    go_wp2_with fail
    refine (h1 _).mono ?_
    rintro e w1 ⟨rfl, hb⟩
    go_wp2_with fail
    refine (boCells_any l _ hl).mono ?_
    rintro e w2 ⟨rfl, rfl⟩
    go_wp2_with fail
    refine (boMines_any (cellsM l) 63 _ rfl _ hcl).mono ?_
    rintro e w2 ⟨a, cap, rfl, hown, hb2⟩
    go_wp2_with fail
    go_ret2
    exact ⟨by rw [HD.out]; rfl, hb.trans (hb2.mono hb.size)⟩
  | false =>
    rw [hg] at h1
    have HD : Hid (dnOK l = false) := by rw [Hid, dnOK, hg]; rfl
    clear hg
    go_enter Tryd.func11, Tryd.ntmps11
    go_wp2_with (go_at_call 31; refine (h1 _).mono ?_; rintro e w1 ⟨rfl, hb⟩)
    go_ret2
    exact ⟨by rw [HD.out]; rfl, hb⟩
end Go.Proofs.YthlbplmghjaeoabDoor
