/- Strips told backwards. -/
import Derived.Test.YtajabfegeeepeaaHB
import Derived.Sort.WalkB12
import Derived.Lib.SlicesMore
import Derived.Lib.ConvBytes
import Derived.Lib.UnsafeStr
import Derived.Lib.OwnBridge
import Derived.Deep.LoopGhost
import Derived.WalkKit
import Derived.Lib.Walk
namespace Go.Proofs.Ytajabfegeeepeaa
open Go.RowKit

theorem back_step (l : List UInt8) {m : Nat} (h : m < l.length) : (l.drop m).reverse = (l.drop (m + 1)).reverse ++ [l[m]] := by
  rw [List.drop_eq_getElem_cons h, List.reverse_cons]
theorem one_text (l : List UInt8) {m : Nat} (h : m < l.length) : (⟨l.toArray⟩ : ByteArray).extract m (m + 1) = ⟨[l[m]].toArray⟩ := by
  apply ByteArray.ext
  rw [ByteArray.data_extract]
  apply Array.ext'
  rw [Array.toList_extract]
  show (l.drop m).take (m + 1 - m) = [l[m]]
  rw [List.drop_eq_getElem_cons h, show m + 1 - m = 1 by omega]
  rfl

/-- The strip backwards. -/
def bkM (l : List UInt8) : List UInt8 := if stM l = true then l.reverse else []
theorem bk_yes {l : List UInt8} (h : stM l = true) : bkM l = l.reverse := by rw [bkM, if_pos h]
theorem bk_no {l : List UInt8} (h : stM l = false) : bkM l = [] := by rw [bkM, h]; rfl

set_option maxRecDepth 100000 in
set_option maxHeartbeats 1600000 in
theorem stBack_any (l : List UInt8) (w : World) (hl : l.length ≤ 1048576) :
    Calls Try.prog 78 #[.string ⟨l.toArray⟩] w fun e w' => e = .returned (.string ⟨l.reverse.toArray⟩) ∧ w' = w := by
  go_enter Try.func78, Try.ntmps78
  go_wp2_with fail
  go_loop [3, 4] (fun o v => ∃ j : Nat, j ≤ l.length ∧ v = .int .i64 ((j : Int) - 1) ∧ o = .string ⟨((l.drop j).reverse).toArray⟩) (fun _ v => (intOf v + 1).toNat)
  case atStart => exact ⟨l.length, Nat.le_refl _, rfl, by rw [List.drop_length]; rfl⟩
  case round =>
    obtain ⟨j, hj, rfl, rfl⟩ := hrel
    cases j with
    | zero =>
      have hz : ((0 : Nat) : Int) - 1 = -1 := rfl
      rw [hz]
      go_wp2_with fail
      go_ret
      exact ⟨by simp, rfl⟩
    | succ m =>
      have hm : m < l.length := by omega
      have hz : ((m + 1 : Nat) : Int) - 1 = (m : Int) := by omega
      rw [hz]
      have hge : (0 : Int) ≤ (m : Int) := by omega
      have hsl : ∀ w, (Instr.slice 9 (.string ⟨l.toArray⟩) (some (.int .i64 (m : Int))) (some (.int .i64 ((m : Int) + 1))) none).run Try.prog w = .ok (.string ⟨[l[m]].toArray⟩) w := fun w => by
        have hs : (ByteArray.mk l.toArray).size = l.length := by simp [ByteArray.size]
        have h1 : (m : Int) ≤ (m : Int) + 1 := by omega
        have h2 : (m : Int) + 1 ≤ (ByteArray.mk l.toArray).size := by rw [hs]; omega
        have e1 : ((m : Int) + 1).toNat = m + 1 := by omega
        have e2 : (0 : Int) ≤ (m : Int) + 1 := by omega
        rw [run_slice_string _ _ _ _ _ _ _ Try.underlying9 hge h1 h2, e1, show ((m : Int)).toNat = m from rfl, one_text l hm]
      have hsl2 : ∀ w, (Instr.sliceAt 9 (.string ⟨l.toArray⟩) (some (.int .i64 (m : Int))) (some (.int .i64 ((m : Int) + 1))) none).run Try.prog w = .ok (.string ⟨[l[m]].toArray⟩) w := fun w => by rw [run_sliceAt_string (h := Try.underlying9)]; exact hsl w
      have HB := Lib.hid (back_step l hm)
      generalize l[m] = c at *
      go_wp2_with fail
      go_round
      case rel => exact ⟨m, by omega, by go_num, by rw [HB.out]⟩
      case measure => simp [intOf]


/-- A byte as a cell. -/
abbrev enc8 : UInt8 → Value := fun c => .int .u8 (c.toNat : Int)

theorem holds_bytes (w : World) (l : List UInt8) : Go.Sort.Holds enc8 (Lib.bytesWorld w 5 ⟨l.toArray⟩) w.heap.size 0 l.toArray := fun j hj => by
  have hs : (ByteArray.mk l.toArray).size = l.length := by simp [ByteArray.size]
  have hj' : j < l.length := by simpa using hj
  rw [Nat.zero_add]
  refine ⟨?_, ?_⟩
  · rw [Lib.bytesWorld_cell w _ _ j (by rw [hs]; exact hj')]
    simp [enc8, List.getD, hj']
  · have hnew := Lib.bytesWorld_at_new w 5 ⟨l.toArray⟩
    have hlt : j < (Lib.bytesCells w 5 ⟨l.toArray⟩).size := by
      simp [Lib.bytesCells]; omega
    generalize Lib.bytesCells w 5 ⟨l.toArray⟩ = cs at *
    simp [World.frozen?, hnew]
    omega
theorem below_bytes (w : World) (e : TypeId) (s : ByteArray) : Below w.heap.size w (Lib.bytesWorld w e s) :=
  Lib.below_freeze (((Below.refl _ w).drew).alloc (Nat.le_refl _) _) (p := ⟨w.heap.size, _, none⟩) (Nat.le_refl _) 1
end Go.Proofs.Ytajabfegeeepeaa
