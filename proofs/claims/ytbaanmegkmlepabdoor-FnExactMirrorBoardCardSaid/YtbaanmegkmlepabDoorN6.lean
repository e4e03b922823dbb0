/- Walks: neighbours, the number of a cell and all numbers, by the model and by the program. -/
import Derived.Test.YtbaanmegkmlepabDoorN5
import Derived.Test.YtbaanmegkmlepabDoorE
import Derived.Outline
namespace Go.Proofs.YtbaanmegkmlepabDoor
open Go.RowKit

/-- Whether there are a board and a cell. -/
def cellOK (l : List UInt8) (c : Int) : Bool := boGoodM l && inB c 0 ((cellsM l).length - 1)
theorem cellOK_yes {l : List UInt8} {c : Int} (h : cellOK l c = true) : boGoodM l = true ∧ ∃ k : Nat, c = k ∧ k < (cellsM l).length := by
  simp [cellOK, inB] at h
  exact ⟨h.1, c.toNat, by omega, by omega⟩
theorem cells_le72 {l : List UInt8} (h : boGoodM l = true) : (cellsM l).length ≤ 64 := (Brd.of h).n64

set_option maxRecDepth 100000 in
theorem boCell_any (l : List UInt8) (c : Int) (w : World) (hl : l.length ≤ 1048576) :
    Calls Tryd.prog 53 #[.string ⟨l.toArray⟩, .int .i64 c] w fun e w' => e = .returned (.bool (cellOK l c)) ∧ Below w.heap.size w w' := by
  by_cases hg : boGoodM l = true
  · have h64 := cells_le72 hg
    have hH : Hid (cellOK l c = inB c 0 ((cellsM l).length - 1)) := by rw [Hid, cellOK, hg]; simp
    go_enter Tryd.func53, Tryd.ntmps53
    go_wp2_with fail
    refine (boGood_any l _ hl).mono ?_
    rintro e w1 ⟨rfl, hb⟩
    go_wp2_with fail
    refine (boCells_any l _ hl).mono ?_
    rintro e w1' ⟨rfl, rfl⟩
    go_wp2_with (go_at_call 73; refine (l1In_any _ _ _ _).mono ?_; rintro e w' ⟨rfl, rfl⟩)
    go_ret
    exact ⟨by rw [hH.out]; rfl, hb⟩
  · have hg' : boGoodM l = false := by simpa using hg
    have hH : Hid (cellOK l c = false) := by rw [Hid, cellOK, hg']; simp
    clear hg
    go_enter Tryd.func53, Tryd.ntmps53
    go_wp2_with (go_at_call 42; refine (boGood_any l _ hl).mono ?_; rintro e w1 ⟨rfl, hb⟩)
    go_ret
    exact ⟨by rw [hH.out]; rfl, hb⟩

set_option maxRecDepth 100000 in
set_option maxHeartbeats 800000 in
theorem readWith_yes (l : List UInt8) (c : Int) (w : World) (hM : HasMax w) (hl : l.length ≤ 1048576) (hc : cellOK l c = true) :
    Calls Tryd.prog 79 #[.string ⟨l.toArray⟩, .int .i64 c] w fun e w' => ∃ a cap, e = .returned (.tuple #[.agg #[.int .i64 (gW l), .int .i64 (gH l), .slice a (gCells l).length cap], .bool true])
      ∧ Owns w' w.heap.size 5 (.slice a (gCells l).length cap) (byts (gCells l)) ∧ Below w.heap.size w w' := by
  obtain ⟨hg, k, rfl, hk⟩ := cellOK_yes hc
  clear hc
  have hgc : gCells l = cellsM l := by rw [gCells, if_pos hg]
  rw [← hgc] at hk
  clear hgc
  have h64 := gCells_le l
  go_enter Tryd.func79, Tryd.ntmps79
  go_wp2_with fail
  refine (readBoard_any l _ (hM.later ((Below.refl _ _).alloc (Nat.le_refl _) _)) hl).mono ?_
  rintro e w1 ⟨a, cap, rfl, hown, hb⟩
  have hR : w1.heap[w.heap.size]? = some (.cells #[.int .i64 0, .int .i64 0, .slice none 0 0] 47 (0, 0)) := by
    rw [hb.block w.heap.size (by simp)]; exact heap_alloc_new w _
  have hRlt := block_lt hR
  have hR0 := cell_of_block hR 0
  have hR1 := cell_of_block hR 1
  have hR2 := cell_of_block hR 2
  simp at hR0 hR1 hR2
  have hq0 := frozen_of_block hR 0
  have hq1 := frozen_of_block hR 1
  have hq2 := frozen_of_block hR 2
  have HR := Lib.hid hR
  clear hR
  have hs := hb.size
  simp at hs
  have hb' : Below w.heap.size w w1 := ((Below.refl _ w).alloc (Nat.le_refl _) _).trans (hb.mono (by simp))
  have hown' := hown.mono (B' := w.heap.size + 1) (by simp)
  clear hown hb
  go_wp2_with fail
  have b3 := block_set (block_set (block_set HR.out 0 (.int .i64 (gW l))) 1 (.int .i64 (gH l))) 2 (.slice a (gCells l).length cap)
  have b4 := (Below.heap_alloc _ (.cells #[.int .i64 (gW l), .int .i64 (gH l), .slice a (gCells l).length cap] 47) _ (block_lt b3)).trans b3
  refine bodyPost_ret (v := .tuple #[.agg #[.int .i64 (gW l), .int .i64 (gH l), .slice a (gCells l).length cap], .bool true]) ?_ rfl ?_
  · have r0 := cell_of_block b4 0
    have r1 := cell_of_block b4 1
    have r2 := cell_of_block b4 2
    simp at r0 r1 r2
    simp [results, Tryd.results79, go_sem, r0, r1, r2]
  · have hst := ((hown'.set w.heap.size 0 (.int .i64 (gW l)) (by omega)).set w.heap.size 1 (.int .i64 (gH l)) (by omega)).set w.heap.size 2 (.slice a (gCells l).length cap) (by omega)
    refine ⟨a, cap, rfl, (hst.later ((Below.refl _ _).alloc (Nat.le_refl _) _)).mono (by omega), ?_⟩
    exact (hb'.trans (((Below.set 0 _).trans (Below.set 1 _)).trans (Below.set 2 _))).alloc (by simp [World.setCell]; omega) _

theorem noGridW_ret {B : Nat} {w w' : World} {t0 t1 t2 t3 : Value} {r : List Value} (h : w'.heap[B]? = some (.cells #[.int .i64 0, .int .i64 0, .slice none 0 0] 47 (0, 0))) {a : Act}
    (ha : a = { tmps := (t0 :: t1 :: t2 :: t3 :: .pointer (some ⟨B, 0, none⟩) :: .bool false :: r).toArray, defers := [] }) (hb : Below w.heap.size w w') :
    bodyPost Tryd.prog Tryd.f79 (fun e w' => e = .returned NoGrid ∧ Below w.heap.size w w') .ret a w' := by
  subst ha
  have r0 := cell_of_block h 0
  have r1 := cell_of_block h 1
  have r2 := cell_of_block h 2
  simp at r0 r1 r2
  exact bodyPost_ret (v := NoGrid) (by simp [results, Tryd.results79, go_sem, r0, r1, r2, NoGrid]) rfl ⟨rfl, hb⟩

set_option maxRecDepth 100000 in
set_option maxHeartbeats 800000 in
theorem readWith_no (l : List UInt8) (c : Int) (w : World) (hM : HasMax w) (hl : l.length ≤ 1048576) (hc : cellOK l c = false) :
    Calls Tryd.prog 79 #[.string ⟨l.toArray⟩, .int .i64 c] w fun e w' => e = .returned NoGrid ∧ Below w.heap.size w w' := by
  have h64 := gCells_le l
  go_enter Tryd.func79, Tryd.ntmps79
  go_wp2_with fail
  refine (readBoard_any l _ (hM.later ((Below.refl _ _).alloc (Nat.le_refl _) _)) hl).mono ?_
  rintro e w1 ⟨a, cap, rfl, hown, hb⟩
  have hR : w1.heap[w.heap.size]? = some (.cells #[.int .i64 0, .int .i64 0, .slice none 0 0] 47 (0, 0)) := by
    rw [hb.block w.heap.size (by simp)]; exact heap_alloc_new w _
  have hRlt := block_lt hR
  have hR0 := cell_of_block hR 0
  have hR1 := cell_of_block hR 1
  have hR2 := cell_of_block hR 2
  simp at hR0 hR1 hR2
  have hq0 := frozen_of_block hR 0
  have hq1 := frozen_of_block hR 1
  have hq2 := frozen_of_block hR 2
  have HR := Lib.hid hR
  clear hR
  have hs := hb.size
  simp at hs
  have hb' : Below w.heap.size w w1 := ((Below.refl _ w).alloc (Nat.le_refl _) _).trans (hb.mono (by simp))
  have hown' := hown.mono (B' := w.heap.size + 1) (by simp)
  clear hown hb
  have fin : ∀ o, Below w.heap.size w ((((w1.setCell ⟨w.heap.size, 0, none⟩ (.int .i64 0)).setCell ⟨w.heap.size, 1, none⟩ (.int .i64 0)).setCell ⟨w.heap.size, 2, none⟩ (.slice none 0 0)).alloc o) := fun o =>
    (hb'.trans (((Below.set 0 _).trans (Below.set 1 _)).trans (Below.set 2 _))).alloc (by simp [World.setCell]; omega) _
  have HB : ∀ o, Hid (((((w1.setCell ⟨w.heap.size, 0, none⟩ (.int .i64 0)).setCell ⟨w.heap.size, 1, none⟩ (.int .i64 0)).setCell ⟨w.heap.size, 2, none⟩ (.slice none 0 0)).alloc o).heap[w.heap.size]? = some (.cells #[.int .i64 0, .int .i64 0, .slice none 0 0] 47 (0, 0))) := fun o => by
    have b3 := block_set (block_set (block_set HR.out 0 (.int .i64 0)) 1 (.int .i64 0)) 2 (.slice none 0 0)
    have b4 := (Below.heap_alloc _ o _ (block_lt b3)).trans b3
    simpa [Hid] using b4
  by_cases hg : boGoodM l = true
  · have hgc : gCells l = cellsM l := by rw [gCells, if_pos hg]
    by_cases h0 : c < 0
    · clear hc
      go_wp2_with fail
      exact noGridW_ret (HB _).out rfl (fin _)
    · have h1 : ((gCells l).length : Int) ≤ c := by
        rw [cellOK, hg, ← hgc] at hc
        simp [inB] at hc
        omega
      clear hc hgc
      go_wp2_with fail
      exact noGridW_ret (HB _).out rfl (fin _)
  · have hg' : boGoodM l = false := by simpa using hg
    clear hg hc
    go_wp2_with fail
    exact noGridW_ret (HB _).out rfl (fin _)
end Go.Proofs.YtbaanmegkmlepabDoor
