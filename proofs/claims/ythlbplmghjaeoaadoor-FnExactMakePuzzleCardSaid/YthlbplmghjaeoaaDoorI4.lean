/- Walks: boards, sizes and mines as the program tells them. -/
import Derived.Test.YthlbplmghjaeoaaDoorI2
import Derived.Deep.QuietTactic
import Derived.BigQuiet
import Derived.WalkSmall
import Derived.Outline
namespace Go.Proofs.YthlbplmghjaeoaaDoor
open Go.RowKit

/-- The cells of the grid that the program reads: none if there is no board. -/
def gCells (l : List UInt8) : List UInt8 := if boGoodM l = true then cellsM l else []
theorem gCells_le (l : List UInt8) : (gCells l).length ≤ 64 := by
  unfold gCells
  by_cases h : boGoodM l = true
  · obtain ⟨_, _, f3, f4, _, _, f7, _⟩ := readM_facts h
    rw [if_pos h, f7]
    exact Nat.mul_le_mul f3 f4
  · rw [if_neg h]; simp
theorem gW_le (l : List UInt8) : gW l ≤ 8 := by
  unfold gW
  by_cases h : boGoodM l = true
  · obtain ⟨_, _, f3, _, _, f6, _⟩ := readM_facts h
    rw [if_pos h, f6]; exact f3
  · rw [if_neg h]; omega
theorem gH_le (l : List UInt8) : gH l ≤ 8 := by
  unfold gH
  by_cases h : boGoodM l = true
  · obtain ⟨_, _, _, f4, _, f6, _⟩ := readM_facts h
    rw [if_pos h, f6]; exact f4
  · rw [if_neg h]; omega
theorem gCells_len (l : List UInt8) : (gCells l).length = gW l * gH l := by
  unfold gCells gW gH
  by_cases h : boGoodM l = true
  · obtain ⟨_, _, _, _, _, f6, f7, _⟩ := readM_facts h
    rw [if_pos h, if_pos h, if_pos h, f7, f6]
  · rw [if_neg h, if_neg h]; simp

theorem gr_board (l : List UInt8) : grW rowSign l = gW l ∧ grH rowSign l = gH l ∧ grC rowSign l = gCells l := by
  unfold grW grH grC gW gH gCells
  rw [grid_good]
  by_cases h : boGoodM l = true
  · obtain ⟨_, _, _, _, _, f6, _⟩ := readM_facts h
    simp [h, f6]
  · simp [h]

set_option maxRecDepth 100000 in
theorem readBoard_any (l : List UInt8) (w : World) (hM : HasMax w) (hl : l.length ≤ 1048576) :
    Calls Tryd.prog 34 #[.string ⟨l.toArray⟩] w fun e w' => ∃ a cap, e = .returned (.tuple #[.agg #[.int .i64 (gW l), .int .i64 (gH l), .slice a (gCells l).length cap, .bool false], .bool (boGoodM l)])
      ∧ Owns w' w.heap.size 5 (.slice a (gCells l).length cap) (byts (gCells l)) ∧ Below w.heap.size w w' := by
  obtain ⟨e1, e2, e3⟩ := gr_board l
  have h := fun w hM => readGrid_any rowSign 65 signs_board l w hM hl
  rw [e1, e2, e3, grid_good] at h
  have HH := Lib.hid h
  clear h e1 e2 e3
  go_enter Tryd.func34, Tryd.ntmps34
  go_wp2_with fail
  refine (HH.out _ (hM.later ((Below.refl _ _).alloc (Nat.le_refl _) _))).mono ?_
  rintro e w1 ⟨a, cap, rfl, hown, hb⟩
  have hR : w1.heap[w.heap.size]? = some (.cells #[.int .i64 0, .int .i64 0, .slice none 0 0, .bool false] 58 (0, 0)) := by
    rw [hb.block w.heap.size (by simp)]; exact heap_alloc_new w _
  have hR0 := cell_of_block hR 0
  have hR1 := cell_of_block hR 1
  have hR2 := cell_of_block hR 2
  have hR3 := cell_of_block hR 3
  simp at hR0 hR1 hR2 hR3
  have hq0 := frozen_of_block hR 0
  have hq1 := frozen_of_block hR 1
  have hq2 := frozen_of_block hR 2
  have hq3 := frozen_of_block hR 3
  have HR := Lib.hid hR
  clear hR
  have hb' : Below w.heap.size w w1 := ((Below.refl _ w).alloc (Nat.le_refl _) _).trans (hb.mono (by simp))
  have hown' := hown.mono (B' := w.heap.size + 1) (by simp)
  clear hown hb
  go_wp2_with fail
  have b3 := block_set (block_set (block_set (block_set HR.out 0 (.int .i64 (gW l))) 1 (.int .i64 (gH l))) 2 (.slice a (gCells l).length cap)) 3 (.bool false)
  refine bodyPost_ret (v := .tuple #[.agg #[.int .i64 (gW l), .int .i64 (gH l), .slice a (gCells l).length cap, .bool false], .bool (boGoodM l)]) ?_ rfl ?_
  · have r0 := cell_of_block b3 0
    have r1 := cell_of_block b3 1
    have r2 := cell_of_block b3 2
    have r3 := cell_of_block b3 3
    simp at r0 r1 r2 r3
    simp [results, Tryd.results34, go_sem, r0, r1, r2, r3]
  · have hst := (((hown'.set w.heap.size 0 (.int .i64 (gW l)) (by omega)).set w.heap.size 1 (.int .i64 (gH l)) (by omega)).set w.heap.size 2 (.slice a (gCells l).length cap) (by omega)).set w.heap.size 3 (.bool false) (by omega)
    exact ⟨a, cap, rfl, hst.mono (by omega), hb'.trans ((((Below.set 0 _).trans (Below.set 1 _)).trans (Below.set 2 _)).trans (Below.set 3 _))⟩




end Go.Proofs.YthlbplmghjaeoaaDoor
