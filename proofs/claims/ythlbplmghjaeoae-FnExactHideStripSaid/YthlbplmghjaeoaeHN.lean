/- Strips told backwards. -/
import Derived.Test.YthlbplmghjaeoaeHB
import Derived.Sort.WalkB12
import Derived.Lib.SlicesMore
import Derived.Lib.ConvBytes
import Derived.Lib.UnsafeStr
import Derived.Lib.OwnBridge
import Derived.Deep.LoopGhost
import Derived.WalkKit
import Derived.Lib.Walk
namespace Go.Proofs.Ythlbplmghjaeoae
open Go.RowKit

theorem back_step (l : List UInt8) {m : Nat} (h : m < l.length) : (l.drop m).reverse = (l.drop (m + 1)).reverse ++ [l[m]] := by
  rw [List.drop_eq_getElem_cons h, List.reverse_cons]
theorem one_text (l : List UInt8) {m : Nat} (h : m < l.length) : (⟨l.toArray⟩ : ByteArray).extract m (m + 1) = ⟨[l[m]].toArray⟩ := by
  apply ByteArray.ext
  rw [ByteArray.data_extract]
  apply Array.ext'
  rw [Array.toList_extract]
  show (l.drop m).take (m + 1 - m) = [l[m]]
  rw [List.drop_eq_getElem_cons h, show m + 1 - m = 1 by omega]
  rfl

/-- The strip backwards. -/
def bkM (l : List UInt8) : List UInt8 := if stM l = true then l.reverse else []
theorem bk_yes {l : List UInt8} (h : stM l = true) : bkM l = l.reverse := by rw [bkM, if_pos h]
theorem bk_no {l : List UInt8} (h : stM l = false) : bkM l = [] := by rw [bkM, h]; rfl



/-- A byte as a cell. -/
abbrev enc8 : UInt8 → Value := fun c => .int .u8 (c.toNat : Int)

theorem holds_bytes (w : World) (l : List UInt8) : Go.Sort.Holds enc8 (Lib.bytesWorld w 5 ⟨l.toArray⟩) w.heap.size 0 l.toArray := fun j hj => by
  have hs : (ByteArray.mk l.toArray).size = l.length := by simp [ByteArray.size]
  have hj' : j < l.length := by simpa using hj
  rw [Nat.zero_add]
  refine ⟨?_, ?_⟩
  · rw [Lib.bytesWorld_cell w _ _ j (by rw [hs]; exact hj')]
    simp [enc8, List.getD, hj']
  · have hnew := Lib.bytesWorld_at_new w 5 ⟨l.toArray⟩
    have hlt : j < (Lib.bytesCells w 5 ⟨l.toArray⟩).size := by
      simp [Lib.bytesCells]; omega
    generalize Lib.bytesCells w 5 ⟨l.toArray⟩ = cs at *
    simp [World.frozen?, hnew]
    omega
theorem below_bytes (w : World) (e : TypeId) (s : ByteArray) : Below w.heap.size w (Lib.bytesWorld w e s) :=
  Lib.below_freeze (((Below.refl _ w).drew).alloc (Nat.le_refl _) _) (p := ⟨w.heap.size, _, none⟩) (Nat.le_refl _) 1
end Go.Proofs.Ythlbplmghjaeoae
