/- Strips: a list of mines read as a grid of one row; numbers in a row. -/
import Derived.Test.YthlbplmghjaeoaeHT
import Derived.Test.YthlbplmghjaeoaeHN
import Derived.Test.YthlbplmghjaeoaeH5
namespace Go.Proofs.Ythlbplmghjaeoae
open Go.RowKit

theorem one42 (x : UInt8) : (if x = 42 then 1 else 0 : Nat) = (x == 42).toNat := by
  by_cases h : x = 42
  · simp [h]
  · rw [if_neg h, show (x == 42) = false by simpa using h]; rfl
theorem num_row (cells : List UInt8) (c : Nat) (hc : c < cells.length) (h40 : cells.length ≤ 40) : numM cells cells.length c = nmT cells c := by
  have h := near_row ⟨cells.length, by omega⟩ ⟨c, by omega⟩ hc
  simp only at h
  rw [numM, h, nmT]
  by_cases h0 : 0 < c
  · by_cases h1 : c + 1 < cells.length
    · rw [if_pos h0, if_pos h1, if_pos h0]
      have e : countAt cells ([c - 1] ++ [c + 1]) = (if cells.getD (c - 1) 0 = 42 then 1 else 0) + (if cells.getD (c + 1) 0 = 42 then 1 else 0) := by
        generalize hx : cells.getD (c - 1) 0 = x
        generalize hy : cells.getD (c + 1) 0 = y
        simp only [List.cons_append, List.nil_append, countAt, hx, hy]
        by_cases h1 : x = 42 <;> by_cases h2 : y = 42 <;> simp [h1, h2]
      rw [e, one42, one42]
    · have hz : cells.getD (c + 1) 0 = 0 := by rw [List.getD, List.getElem?_eq_none (by omega)]; rfl
      rw [if_pos h0, if_neg h1, if_pos h0, hz]
      have e : countAt cells ([c - 1] ++ []) = (if cells.getD (c - 1) 0 = 42 then 1 else 0) := by
        generalize hx : cells.getD (c - 1) 0 = x
        simp only [List.cons_append, List.nil_append, countAt, hx]
      rw [e, one42]
      simp
  · have hz0 : c = 0 := by omega
    subst hz0
    by_cases h1 : 0 + 1 < cells.length
    · rw [if_neg h0, if_pos h1, if_neg h0]
      have e : countAt cells ([] ++ [0 + 1]) = (if cells.getD (0 + 1) 0 = 42 then 1 else 0) := by
        generalize hx : cells.getD (0 + 1) 0 = x
        simp only [List.nil_append, countAt, hx]
      rw [e, one42]
      simp
    · have hz : cells.getD (0 + 1) 0 = 0 := by rw [List.getD, List.getElem?_eq_none (by omega)]; rfl
      rw [if_neg h0, if_neg h1, if_neg h0, hz]
      simp [countAt]

set_option maxRecDepth 100000 in
set_option maxHeartbeats 1600000 in
theorem readMineList_no (l : List UInt8) (w : World) (hl : l.length ≤ 1048576) (hm : mlM l = false) :
    Calls Try.prog 49 #[.string ⟨l.toArray⟩] w fun e w' => e = .returned (.tuple #[.agg #[.int .i64 0, .int .i64 0, .slice none 0 0, .bool false], .bool false]) ∧ Below w.heap.size w w' := by
  have his := fun w => isRowOf_any l [42, 46] w hl (by decide) (by decide)
  rw [rowOf_ml, hm] at his
  have HIS := Lib.hid his
  clear his hm
  have hA0 : (w.alloc (.cells #[.int .i64 0, .int .i64 0, .slice none 0 0, .bool false] 66)).heap[w.heap.size]? = some (.cells #[.int .i64 0, .int .i64 0, .slice none 0 0, .bool false] 66 (0, 0)) := heap_alloc_new w _
  have hb0 : Below w.heap.size w (w.alloc (.cells #[.int .i64 0, .int .i64 0, .slice none 0 0, .bool false] 66)) := (Below.refl _ _).alloc (Nat.le_refl _) _
  have hA0l := block_lt hA0
  go_enter Try.func49, Try.ntmps49
  go_wp2_with fail
  generalize w.alloc (.cells #[.int .i64 0, .int .i64 0, .slice none 0 0, .bool false] 66) = w1 at *
  refine (HIS.out _).mono ?_
  rintro e w2 ⟨rfl, hb2⟩
  have hA2 := (hb2.block _ hA0l).trans hA0
  have hb02 := hb0.trans (hb2.mono (by have := hb0.size; omega))
  have hR0 := cell_of_block hA2 0
  have hR1 := cell_of_block hA2 1
  have hR2 := cell_of_block hA2 2
  have hR3 := cell_of_block hA2 3
  simp at hR0 hR1 hR2 hR3
  have hq0 := frozen_of_block hA2 0
  have hq1 := frozen_of_block hA2 1
  have hq2 := frozen_of_block hA2 2
  have hq3 := frozen_of_block hA2 3
  have HA2 := Lib.hid hA2
  clear hA2 hA0
  go_wp2_with fail
  refine bodyPost_ret (v := .tuple #[.agg #[.int .i64 0, .int .i64 0, .slice none 0 0, .bool false], .bool false]) ?_ rfl ?_
  · have b3 := block_set (block_set (block_set (block_set HA2.out 0 (.int .i64 0)) 1 (.int .i64 0)) 2 (.slice none 0 0)) 3 (.bool false)
    have r0 := cell_of_block b3 0
    have r1 := cell_of_block b3 1
    have r2 := cell_of_block b3 2
    have r3 := cell_of_block b3 3
    simp at r0 r1 r2 r3
    simp [results, Try.results49, go_sem, r0, r1, r2, r3]
  · exact ⟨rfl, hb02.trans ((((Below.set 0 _).trans (Below.set 1 _)).trans (Below.set 2 _)).trans (Below.set 3 _))⟩
set_option maxRecDepth 100000 in
set_option maxHeartbeats 1600000 in
theorem readMineList_yes (l : List UInt8) (w : World) (hl : l.length ≤ 1048576) (hm : mlM l = true) :
    Calls Try.prog 49 #[.string ⟨l.toArray⟩] w fun e w' => ∃ a cap, e = .returned (.tuple #[.agg #[.int .i64 (l.length : Nat), .int .i64 1, .slice a l.length cap, .bool false], .bool true]) ∧ At w' a (byts l) ∧ Below w.heap.size w w' := by
  have his := fun w => isRowOf_any l [42, 46] w hl (by decide) (by decide)
  rw [rowOf_ml, hm] at his
  have HIS := Lib.hid his
  have hcv := fun w => Lib.run_convert_string_bytes (P := Try.prog) w 9 64 5 ⟨l.toArray⟩ Try.underlying9 Try.underlying64 Try.underlying5
  rw [show (ByteArray.mk l.toArray).size = l.length by simp [ByteArray.size]] at hcv
  clear his hm
  have hA0 : (w.alloc (.cells #[.int .i64 0, .int .i64 0, .slice none 0 0, .bool false] 66)).heap[w.heap.size]? = some (.cells #[.int .i64 0, .int .i64 0, .slice none 0 0, .bool false] 66 (0, 0)) := heap_alloc_new w _
  have hb0 : Below w.heap.size w (w.alloc (.cells #[.int .i64 0, .int .i64 0, .slice none 0 0, .bool false] 66)) := (Below.refl _ _).alloc (Nat.le_refl _) _
  have hA0l := block_lt hA0
  go_enter Try.func49, Try.ntmps49
  go_wp2_with fail
  generalize w.alloc (.cells #[.int .i64 0, .int .i64 0, .slice none 0 0, .bool false] 66) = w1 at *
  refine (HIS.out _).mono ?_
  rintro e w2 ⟨rfl, hb2⟩
  have hA2 := (hb2.block _ hA0l).trans hA0
  have hb02 := hb0.trans (hb2.mono (by have := hb0.size; omega))
  have hHB := holds_bytes w2 l
  have hbb := below_bytes w2 5 ⟨l.toArray⟩
  have hA3 := (hbb.block _ (block_lt hA2)).trans hA2
  have hb03 := hb02.trans (hbb.mono hb02.size)
  have hat : At (Lib.bytesWorld w2 5 ⟨l.toArray⟩) (some ⟨w2.heap.size, 0, none⟩) (byts l) := fun k hk => by
    have hk' : k < l.length := by simpa [byts] using hk
    refine ⟨w2.heap.size, 0, rfl, ?_⟩
    rw [(hHB k (by simpa using hk')).1]
    simp [enc8, byts, hk']
  have hlt2 := block_lt hA2
  have HAT := Lib.hid hat
  have hR0 := cell_of_block hA3 0
  have hR1 := cell_of_block hA3 1
  have hR2 := cell_of_block hA3 2
  have hR3 := cell_of_block hA3 3
  simp at hR0 hR1 hR2 hR3
  have hq0 := frozen_of_block hA3 0
  have hq1 := frozen_of_block hA3 1
  have hq2 := frozen_of_block hA3 2
  have hq3 := frozen_of_block hA3 3
  have HA3 := Lib.hid hA3
  clear hA2 hA0 hA3 hat hHB hbb
  go_wp2_with fail
  generalize Lib.bytesWorld w2 5 ⟨l.toArray⟩ = w3 at *
  refine bodyPost_ret (v := .tuple #[.agg #[.int .i64 (l.length : Nat), .int .i64 1, .slice (some ⟨w2.heap.size, 0, none⟩) l.length (grownCap w2 l.length 0 5), .bool false], .bool true]) ?_ rfl ?_
  · have b3 := block_set (block_set (block_set (block_set HA3.out 0 (.int .i64 (l.length : Nat))) 1 (.int .i64 1)) 2 (.slice (some ⟨w2.heap.size, 0, none⟩) l.length (grownCap w2 l.length 0 5))) 3 (.bool false)
    have r0 := cell_of_block b3 0
    have r1 := cell_of_block b3 1
    have r2 := cell_of_block b3 2
    have r3 := cell_of_block b3 3
    simp at r0 r1 r2 r3
    simp [results, Try.results49, go_sem, r0, r1, r2, r3]
  · refine ⟨_, _, rfl, ?_, hb03.trans ((((Below.set 0 _).trans (Below.set 1 _)).trans (Below.set 2 _)).trans (Below.set 3 _))⟩
    intro k hk
    obtain ⟨b', o', he, hc⟩ := HAT.out k hk
    obtain ⟨rfl, rfl⟩ : b' = w2.heap.size ∧ o' = 0 := by simpa using he.symm
    refine ⟨w2.heap.size, 0, rfl, ?_⟩
    have hne : w2.heap.size ≠ w.heap.size := by omega
    have e1 := (awayH (w := ((w3.setCell ⟨w.heap.size, 0, none⟩ (.int .i64 (l.length : Nat))).setCell ⟨w.heap.size, 1, none⟩ (.int .i64 1)).setCell ⟨w.heap.size, 2, none⟩ (.slice (some ⟨w2.heap.size, 0, none⟩) l.length (grownCap w2 l.length 0 5))) hne 3 (.bool false)).trans <| (awayH (w := (w3.setCell ⟨w.heap.size, 0, none⟩ (.int .i64 (l.length : Nat))).setCell ⟨w.heap.size, 1, none⟩ (.int .i64 1)) hne 2 (.slice (some ⟨w2.heap.size, 0, none⟩) l.length (grownCap w2 l.length 0 5))).trans ((awayH (w := w3.setCell ⟨w.heap.size, 0, none⟩ (.int .i64 (l.length : Nat))) hne 1 (.int .i64 1)).trans (awayH (w := w3) hne 0 (.int .i64 (l.length : Nat))))
    unfold World.cell? at hc ⊢
    simp only [e1]
    exact hc
end Go.Proofs.Ythlbplmghjaeoae
