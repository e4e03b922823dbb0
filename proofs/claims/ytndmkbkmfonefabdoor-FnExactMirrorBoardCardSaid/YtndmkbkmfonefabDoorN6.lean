/- Walks: neighbours, the number of a cell and all numbers, by the model and by the program. -/
import Derived.Test.YtndmkbkmfonefabDoorN5
import Derived.Test.YtndmkbkmfonefabDoorE
import Derived.Outline
namespace Go.Proofs.YtndmkbkmfonefabDoor
open Go.RowKit

/-- Whether there are a board and a cell. -/
def cellOK (l : List UInt8) (c : Int) : Bool := boGoodM l && inB c 0 ((cellsM l).length - 1)
theorem cellOK_yes {l : List UInt8} {c : Int} (h : cellOK l c = true) : boGoodM l = true ∧ ∃ k : Nat, c = k ∧ k < (cellsM l).length := by
  simp [cellOK, inB] at h
  exact ⟨h.1, c.toNat, by omega, by omega⟩
theorem cells_le72 {l : List UInt8} (h : boGoodM l = true) : (cellsM l).length ≤ 64 := (Brd.of h).n64

set_option maxRecDepth 100000 in
theorem boCell_any (l : List UInt8) (c : Int) (w : World) (hl : l.length ≤ 1048576) :
    Calls Tryd.prog 39 #[.string ⟨l.toArray⟩, .int .i64 c] w fun e w' => e = .returned (.bool (cellOK l c)) ∧ Below w.heap.size w w' := by
  by_cases hg : boGoodM l = true
  · have h64 := cells_le72 hg
    have hH : Hid (cellOK l c = inB c 0 ((cellsM l).length - 1)) := by rw [Hid, cellOK, hg]; simp
    go_enter Tryd.func39, Tryd.ntmps39
    go_wp2_with fail
    refine (boGood_any l _ hl).mono ?_
    rintro e w1 ⟨rfl, hb⟩
    go_wp2_with fail
    refine (boCells_any l _ hl).mono ?_
    rintro e w1' ⟨rfl, rfl⟩
    go_wp2_with (go_at_call 69; refine (l1In_any _ _ _ _).mono ?_; rintro e w' ⟨rfl, rfl⟩)
    go_ret
    exact ⟨by rw [hH.out]; rfl, hb⟩
  · have hg' : boGoodM l = false := by simpa using hg
    have hH : Hid (cellOK l c = false) := by rw [Hid, cellOK, hg']; simp
    clear hg
    go_enter Tryd.func39, Tryd.ntmps39
    go_wp2_with (go_at_call 43; refine (boGood_any l _ hl).mono ?_; rintro e w1 ⟨rfl, hb⟩)
    go_ret
    exact ⟨by rw [hH.out]; rfl, hb⟩

theorem cellOK_in (l : List UInt8) (c : Int) : cellOK l c = inC (gCells l).length c := by
  unfold cellOK gCells inC inB
  by_cases h : boGoodM l = true
  · rw [if_pos h, h]
    have e : decide (c ≤ ((cellsM l).length : Int) - 1) = decide (c < ((cellsM l).length : Int)) := by
      apply decide_eq_decide.2; omega
    rw [e]; simp
  · have h' : boGoodM l = false := by simpa using h
    rw [h']
    by_cases q : 0 ≤ c
    · have : ¬ c < 0 := by omega
      simp [this]
    · simp [q]

set_option maxRecDepth 100000 in
set_option maxHeartbeats 1600000 in
theorem readWith_yes (l : List UInt8) (c : Int) (w : World) (hM : HasMax w) (hl : l.length ≤ 1048576) (hc : cellOK l c = true) :
    Calls Tryd.prog 70 #[.string ⟨l.toArray⟩, .int .i64 c] w fun e w' => ∃ a cap, e = .returned (.tuple #[.agg #[.int .i64 (gW l), .int .i64 (gH l), .slice a (gCells l).length cap, .bool false], .bool true])
      ∧ Owns w' w.heap.size 5 (.slice a (gCells l).length cap) (byts (gCells l)) ∧ Below w.heap.size w w' := by
  have HG := Lib.hid (cellOK_yes hc).1
  have HF : Hid (inC (gCells l).length c = true) := by rw [Hid, ← cellOK_in]; exact hc
  clear hc
  have h64 := gCells_le l
  go_enter Tryd.func70, Tryd.ntmps70
  go_wp2_with fail
  refine (readBoard_any l _ (hM.later ((Below.refl _ _).alloc (Nat.le_refl _) _)) hl).mono ?_
  rintro e w1 ⟨a, cap, rfl, hown, hb⟩
  have hR : w1.heap[w.heap.size]? = some (.cells #[.int .i64 0, .int .i64 0, .slice none 0 0, .bool false] 50 (0, 0)) := by
    rw [hb.block w.heap.size (by simp)]; exact heap_alloc_new w _
  have hs := hb.size
  simp at hs
  have hb' : Below w.heap.size w w1 := ((Below.refl _ w).alloc (Nat.le_refl _) _).trans (hb.mono (by simp))
  have hown' := hown.mono (B' := w.heap.size + 1) (by simp)
  clear hown hb
  rw [HG.out]
  go_wp2_with fail
  have hba : Below w1.heap.size w1 (w1.alloc (.cells #[.int .i64 (gW l), .int .i64 (gH l), .slice a (gCells l).length cap, .bool false] 50)) := (Below.refl _ _).alloc (Nat.le_refl _) _
  have hGa : (w1.alloc (.cells #[.int .i64 (gW l), .int .i64 (gH l), .slice a (gCells l).length cap, .bool false] 50)).heap[w1.heap.size]? = some (.cells #[.int .i64 (gW l), .int .i64 (gH l), .slice a (gCells l).length cap, .bool false] 50 (0, 0)) := heap_alloc_new w1 _
  have hsa : w1.heap.size < (w1.alloc (.cells #[.int .i64 (gW l), .int .i64 (gH l), .slice a (gCells l).length cap, .bool false] 50)).heap.size := by simp
  generalize w1.alloc (.cells #[.int .i64 (gW l), .int .i64 (gH l), .slice a (gCells l).length cap, .bool false] 50) = wa at *
  have hRa := (hba.block w.heap.size (by omega)).trans hR
  have howna := hown'.later hba
  have hif := hasCell_any (J := false) (gW l) (gH l) a (gCells l).length cap c wa
  rw [show inC (gCells l).length c = true from HF.out] at hif
  refine hif.mono ?_
  rintro e w2 ⟨rfl, hb2⟩
  have hs2 := hb2.size
  have hR2 := (hb2.block w.heap.size (by omega)).trans hRa
  have hG2 := (hb2.block w1.heap.size hsa).trans hGa
  have hown2 := howna.later hb2
  have hbw2 : Below w.heap.size w w2 := (hb'.trans (hba.mono (by omega))).trans (hb2.mono (by omega))
  clear hif hb2 hba hRa howna hGa hR hown' hb'
  have hf0 := cell_of_block hG2 0
  have hf1 := cell_of_block hG2 1
  have hf2 := cell_of_block hG2 2
  have hf3 := cell_of_block hG2 3
  have hR0 := cell_of_block hR2 0
  have hR1 := cell_of_block hR2 1
  have hR2' := cell_of_block hR2 2
  have hR3' := cell_of_block hR2 3
  simp at hR0 hR1 hR2' hR3' hf0 hf1 hf2 hf3
  have hq0 := frozen_of_block hR2 0
  have hq1 := frozen_of_block hR2 1
  have hq2 := frozen_of_block hR2 2
  have hq3 := frozen_of_block hR2 3
  have hRlt := block_lt hR2
  have hGlt := block_lt hG2
  have HR := Lib.hid hR2
  clear hR2 hG2
  go_wp2_with fail
  have b3 := block_set (block_set (block_set (block_set HR.out 0 (.int .i64 (gW l))) 1 (.int .i64 (gH l))) 2 (.slice a (gCells l).length cap)) 3 (.bool false)
  refine bodyPost_ret (v := .tuple #[.agg #[.int .i64 (gW l), .int .i64 (gH l), .slice a (gCells l).length cap, .bool false], .bool true]) ?_ rfl ?_
  · have r0 := cell_of_block b3 0
    have r1 := cell_of_block b3 1
    have r2 := cell_of_block b3 2
    have r3 := cell_of_block b3 3
    simp at r0 r1 r2 r3
    simp [results, Tryd.results70, go_sem, r0, r1, r2, r3]
  · have hst := (((hown2.set w.heap.size 0 (.int .i64 (gW l)) (by omega)).set w.heap.size 1 (.int .i64 (gH l)) (by omega)).set w.heap.size 2 (.slice a (gCells l).length cap) (by omega)).set w.heap.size 3 (.bool false) (by omega)
    exact ⟨a, cap, rfl, hst.mono (by omega), hbw2.trans ((((Below.set 0 _).trans (Below.set 1 _)).trans (Below.set 2 _)).trans (Below.set 3 _))⟩

theorem noGridW_ret {B : Nat} {w w' : World} {t0 t1 t2 t3 : Value} {r : List Value} (h : w'.heap[B]? = some (.cells #[.int .i64 0, .int .i64 0, .slice none 0 0, .bool false] 50 (0, 0))) {a : Act}
    (ha : a = { tmps := (t0 :: t1 :: t2 :: t3 :: .pointer (some ⟨B, 0, none⟩) :: .bool false :: r).toArray, defers := [] }) (hb : Below w.heap.size w w') :
    bodyPost Tryd.prog Tryd.f70 (fun e w' => e = .returned NoGrid ∧ Below w.heap.size w w') .ret a w' := by
  subst ha
  have r0 := cell_of_block h 0
  have r1 := cell_of_block h 1
  have r2 := cell_of_block h 2
  have r3 := cell_of_block h 3
  simp at r0 r1 r2 r3
  exact bodyPost_ret (v := NoGrid) (by simp [results, Tryd.results70, go_sem, r0, r1, r2, r3, NoGrid]) rfl ⟨rfl, hb⟩

set_option maxRecDepth 100000 in
set_option maxHeartbeats 1600000 in
theorem readWith_no (l : List UInt8) (c : Int) (w : World) (hM : HasMax w) (hl : l.length ≤ 1048576) (hc : cellOK l c = false) :
    Calls Tryd.prog 70 #[.string ⟨l.toArray⟩, .int .i64 c] w fun e w' => e = .returned NoGrid ∧ Below w.heap.size w w' := by
  have HF : Hid (inC (gCells l).length c = false) := by rw [Hid, ← cellOK_in]; exact hc
  clear hc
  by_cases hg : boGoodM l = true
  · have HG := Lib.hid hg
    clear hg
    have h64 := gCells_le l
    go_enter Tryd.func70, Tryd.ntmps70
    go_wp2_with fail
    refine (readBoard_any l _ (hM.later ((Below.refl _ _).alloc (Nat.le_refl _) _)) hl).mono ?_
    rintro e w1 ⟨a, cap, rfl, hown, hb⟩
    have hR : w1.heap[w.heap.size]? = some (.cells #[.int .i64 0, .int .i64 0, .slice none 0 0, .bool false] 50 (0, 0)) := by
      rw [hb.block w.heap.size (by simp)]; exact heap_alloc_new w _
    have hs := hb.size
    simp at hs
    have hb' : Below w.heap.size w w1 := ((Below.refl _ w).alloc (Nat.le_refl _) _).trans (hb.mono (by simp))
    have hown' := hown.mono (B' := w.heap.size + 1) (by simp)
    clear hown hb
    rw [HG.out]
    go_wp2_with fail
    have hba : Below w1.heap.size w1 (w1.alloc (.cells #[.int .i64 (gW l), .int .i64 (gH l), .slice a (gCells l).length cap, .bool false] 50)) := (Below.refl _ _).alloc (Nat.le_refl _) _
    have hGa : (w1.alloc (.cells #[.int .i64 (gW l), .int .i64 (gH l), .slice a (gCells l).length cap, .bool false] 50)).heap[w1.heap.size]? = some (.cells #[.int .i64 (gW l), .int .i64 (gH l), .slice a (gCells l).length cap, .bool false] 50 (0, 0)) := heap_alloc_new w1 _
    have hsa : w1.heap.size < (w1.alloc (.cells #[.int .i64 (gW l), .int .i64 (gH l), .slice a (gCells l).length cap, .bool false] 50)).heap.size := by simp
    generalize w1.alloc (.cells #[.int .i64 (gW l), .int .i64 (gH l), .slice a (gCells l).length cap, .bool false] 50) = wa at *
    have hRa := (hba.block w.heap.size (by omega)).trans hR
    have howna := hown'.later hba
    have hif := hasCell_any (J := false) (gW l) (gH l) a (gCells l).length cap c wa
    rw [show inC (gCells l).length c = false from HF.out] at hif
    refine hif.mono ?_
    rintro e w2 ⟨rfl, hb2⟩
    have hs2 := hb2.size
    have hR2 := (hb2.block w.heap.size (by omega)).trans hRa
    have hG2 := (hb2.block w1.heap.size hsa).trans hGa
    have hown2 := howna.later hb2
    have hbw2 : Below w.heap.size w w2 := (hb'.trans (hba.mono (by omega))).trans (hb2.mono (by omega))
    clear hif hb2 hba hRa howna hGa hR hown' hb'
    have hf0 := cell_of_block hG2 0
    have hf1 := cell_of_block hG2 1
    have hf2 := cell_of_block hG2 2
    have hf3 := cell_of_block hG2 3
    have hR0 := cell_of_block hR2 0
    have hR1 := cell_of_block hR2 1
    have hR2' := cell_of_block hR2 2
    have hR3' := cell_of_block hR2 3
    simp at hR0 hR1 hR2' hR3' hf0 hf1 hf2 hf3
    have hq0 := frozen_of_block hR2 0
    have hq1 := frozen_of_block hR2 1
    have hq2 := frozen_of_block hR2 2
    have hq3 := frozen_of_block hR2 3
    have hRlt := block_lt hR2
    have hGlt := block_lt hG2
    have HR := Lib.hid hR2
    clear hR2 hG2
    go_wp2_with fail
    have b3 := block_set (block_set (block_set (block_set HR.out 0 (.int .i64 0)) 1 (.int .i64 0)) 2 (.slice none 0 0)) 3 (.bool false)
    exact noGridW_ret b3 rfl (hbw2.trans ((((Below.set 0 _).trans (Below.set 1 _)).trans (Below.set 2 _)).trans (Below.set 3 _)))
  · have hg' : boGoodM l = false := by simpa using hg
    have HG := Lib.hid hg'
    clear hg hg'
    have h64 := gCells_le l
    go_enter Tryd.func70, Tryd.ntmps70
    go_wp2_with fail
    refine (readBoard_any l _ (hM.later ((Below.refl _ _).alloc (Nat.le_refl _) _)) hl).mono ?_
    rintro e w1 ⟨a, cap, rfl, hown, hb⟩
    have hR : w1.heap[w.heap.size]? = some (.cells #[.int .i64 0, .int .i64 0, .slice none 0 0, .bool false] 50 (0, 0)) := by
      rw [hb.block w.heap.size (by simp)]; exact heap_alloc_new w _
    have hs := hb.size
    simp at hs
    have hb' : Below w.heap.size w w1 := ((Below.refl _ w).alloc (Nat.le_refl _) _).trans (hb.mono (by simp))
    have hown' := hown.mono (B' := w.heap.size + 1) (by simp)
    clear hown hb
    rw [HG.out]
    have hR0 := cell_of_block hR 0
    have hR1 := cell_of_block hR 1
    have hR2 := cell_of_block hR 2
    have hR3 := cell_of_block hR 3
    simp at hR0 hR1 hR2 hR3
    have hq0 := frozen_of_block hR 0
    have hq1 := frozen_of_block hR 1
    have hq2 := frozen_of_block hR 2
    have hq3 := frozen_of_block hR 3
    have hRlt := block_lt hR
    have HR := Lib.hid hR
    clear hR
    go_wp2_with fail
    have b3 := block_set (block_set (block_set (block_set HR.out 0 (.int .i64 0)) 1 (.int .i64 0)) 2 (.slice none 0 0)) 3 (.bool false)
    exact noGridW_ret ((Below.heap_alloc _ _ _ (block_lt b3)).trans b3) rfl ((hb'.trans ((((Below.set 0 _).trans (Below.set 1 _)).trans (Below.set 2 _)).trans (Below.set 3 _))).alloc (by simp [World.setCell]; omega) _)
end Go.Proofs.YtndmkbkmfonefabDoor
