/- Opening: a free cell of a board, and what a click on it opens, by the program. -/
import Derived.Test.YtndmkbkmfonefacDoorY6
import Derived.Test.YtndmkbkmfonefacDoorN6
import Derived.Outline
namespace Go.Proofs.YtndmkbkmfonefacDoor
open Go.RowKit

/-- Is there a cell, and has it no mine? -/
def freeB (cells : List UInt8) (c : Int) : Bool := if 0 ≤ c ∧ c < cells.length then !(cells.getD c.toNat 0 == 42) else false
/-- Are there a board and a free cell? -/
def freeOK (l : List UInt8) (c : Int) : Bool := freeB (gCells l) c
theorem freeOK_yes {l : List UInt8} {c : Int} (h : freeOK l c = true) : boGoodM l = true ∧ ∃ k : Nat, c = k ∧ k < (gCells l).length ∧ (gCells l).getD k 0 ≠ 42 := by
  unfold freeOK freeB at h
  split at h
  · rename_i hc
    refine ⟨?_, c.toNat, by omega, by omega, by simpa using h⟩
    by_cases hg : boGoodM l = true
    · exact hg
    · have : gCells l = [] := by rw [gCells, if_neg hg]
      rw [this] at hc
      simp at hc
      omega
  · cases h
theorem freeB_at (cells : List UInt8) (k : Nat) (hk : k < cells.length) : freeB cells k = !(cells[k] == 42) := by
  unfold freeB
  rw [if_pos ⟨by omega, by omega⟩]
  simp [List.getD, hk]
theorem freeB_out (cells : List UInt8) (c : Int) (h : c < 0 ∨ (cells.length : Int) ≤ c) : freeB cells c = false := by
  unfold freeB
  rw [if_neg (by omega)]

set_option maxRecDepth 100000 in
theorem isFree_any {J : Bool} (W H : Nat) (a : Option Addr) (cells : List UInt8) (cap : Nat) (c : Int) (w : World) (hat : At w a (byts cells)) (hl : cells.length ≤ 64) :
    Calls Tryd.prog 58 #[.agg #[.int .i64 W, .int .i64 H, .slice a cells.length cap, .bool J], .int .i64 c] w fun e w' => e = .returned (.bool (freeB cells c)) ∧ Below w.heap.size w w' := by
  have hb0 : Below w.heap.size w (w.alloc (.cells #[.int .i64 W, .int .i64 H, .slice a cells.length cap, .bool J] 42)) := (Below.refl _ _).alloc (Nat.le_refl _) _
  have hG0 : (w.alloc (.cells #[.int .i64 W, .int .i64 H, .slice a cells.length cap, .bool J] 42)).heap[w.heap.size]? = some (.cells #[.int .i64 W, .int .i64 H, .slice a cells.length cap, .bool J] 42 (0, 0)) := heap_alloc_new w _
  have hs0 : w.heap.size < (w.alloc (.cells #[.int .i64 W, .int .i64 H, .slice a cells.length cap, .bool J] 42)).heap.size := by simp
  have hat0 : At (w.alloc (.cells #[.int .i64 W, .int .i64 H, .slice a cells.length cap, .bool J] 42)) a (byts cells) := hat.later rfl hb0
  have hc := fun w => hasCell_any (J := J) W H a cells.length cap c w
  by_cases hin : 0 ≤ c ∧ c < cells.length
  · obtain ⟨k, rfl⟩ : ∃ k : Nat, c = k := ⟨c.toNat, by omega⟩
    have hk : k < cells.length := by omega
    have HB := Lib.hid (freeB_at cells k hk)
    rw [show inC cells.length (k : Int) = true by simp [inC]; omega] at hc
    have hm := fun w h => isMine_any (J := J) W H a cells cap k w h hk hl
    have e : Hid (((cells[k].toNat : Int) == 42) = (cells[k] == 42)) := byte_beq cells[k] 42 (by omega)
    clear hin
    go_enter Tryd.func58, Tryd.ntmps58
    go_wp2_with fail
    generalize w.alloc (.cells #[.int .i64 W, .int .i64 H, .slice a cells.length cap, .bool J] 42) = w0 at *
    refine (hc _).mono ?_
    rintro e w1 ⟨rfl, hb1⟩
    have hG1 := (hb1.block _ hs0).trans hG0
    have hf0 := cell_of_block hG1 0
    have hf1 := cell_of_block hG1 1
    have hf2 := cell_of_block hG1 2
    have hf3 := cell_of_block hG1 3
    simp at hf0 hf1 hf2 hf3
    clear hG1 hG0
    go_wp2_with fail
    refine (hm _ (hat0.later rfl hb1)).mono ?_
    rintro e w2 ⟨rfl, hb2⟩
    go_wp2_with fail
    go_ret
    exact ⟨by rw [HB.out, ← e.out]; rfl, (hb0.trans (hb1.mono (by omega))).trans (hb2.mono (by have := hb1.size; omega))⟩
  · have HB := Lib.hid (freeB_out cells c (by omega))
    rw [show inC cells.length c = false by simp [inC]; omega] at hc
    go_enter Tryd.func58, Tryd.ntmps58
    go_wp2_with fail
    generalize w.alloc (.cells #[.int .i64 W, .int .i64 H, .slice a cells.length cap, .bool J] 42) = w0 at *
    refine (hc _).mono ?_
    rintro e w1 ⟨rfl, hb1⟩
    go_wp2_with fail
    go_ret
    exact ⟨by rw [HB.out]; rfl, hb0.trans (hb1.mono (by omega))⟩

set_option maxRecDepth 100000 in
set_option maxHeartbeats 1600000 in
theorem readFree_yes (l : List UInt8) (c : Int) (w : World) (hM : HasMax w) (hl : l.length ≤ 1048576) (hc : freeOK l c = true) :
    Calls Tryd.prog 45 #[.string ⟨l.toArray⟩, .int .i64 c] w fun e w' => ∃ a cap, e = .returned (.tuple #[.agg #[.int .i64 (gW l), .int .i64 (gH l), .slice a (gCells l).length cap, .bool false], .bool true])
      ∧ Owns w' w.heap.size 5 (.slice a (gCells l).length cap) (byts (gCells l)) ∧ Below w.heap.size w w' := by
  have HG := Lib.hid (freeOK_yes hc).1
  have HF : Hid (freeB (gCells l) c = true) := hc
  clear hc
  have h64 := gCells_le l
  go_enter Tryd.func45, Tryd.ntmps45
  go_wp2_with fail
  refine (readBoard_any l _ (hM.later ((Below.refl _ _).alloc (Nat.le_refl _) _)) hl).mono ?_
  rintro e w1 ⟨a, cap, rfl, hown, hb⟩
  have hR : w1.heap[w.heap.size]? = some (.cells #[.int .i64 0, .int .i64 0, .slice none 0 0, .bool false] 42 (0, 0)) := by
    rw [hb.block w.heap.size (by simp)]; exact heap_alloc_new w _
  have hs := hb.size
  simp at hs
  have hb' : Below w.heap.size w w1 := ((Below.refl _ w).alloc (Nat.le_refl _) _).trans (hb.mono (by simp))
  have hown' := hown.mono (B' := w.heap.size + 1) (by simp)
  clear hown hb
  rw [HG.out]
  go_wp2_with fail
  have hba : Below w1.heap.size w1 (w1.alloc (.cells #[.int .i64 (gW l), .int .i64 (gH l), .slice a (gCells l).length cap, .bool false] 42)) := (Below.refl _ _).alloc (Nat.le_refl _) _
  have hGa : (w1.alloc (.cells #[.int .i64 (gW l), .int .i64 (gH l), .slice a (gCells l).length cap, .bool false] 42)).heap[w1.heap.size]? = some (.cells #[.int .i64 (gW l), .int .i64 (gH l), .slice a (gCells l).length cap, .bool false] 42 (0, 0)) := heap_alloc_new w1 _
  have hsa : w1.heap.size < (w1.alloc (.cells #[.int .i64 (gW l), .int .i64 (gH l), .slice a (gCells l).length cap, .bool false] 42)).heap.size := by simp
  generalize w1.alloc (.cells #[.int .i64 (gW l), .int .i64 (gH l), .slice a (gCells l).length cap, .bool false] 42) = wa at *
  have hRa := (hba.block w.heap.size (by omega)).trans hR
  have howna := hown'.later hba
  have hif := isFree_any (J := false) (gW l) (gH l) a (gCells l) cap c wa howna.at h64
  rw [show freeB (gCells l) c = true from HF.out] at hif
  refine hif.mono ?_
  rintro e w2 ⟨rfl, hb2⟩
  have hs2 := hb2.size
  have hR2 := (hb2.block w.heap.size (by omega)).trans hRa
  have hG2 := (hb2.block w1.heap.size hsa).trans hGa
  have hown2 := howna.later hb2
  have hbw2 : Below w.heap.size w w2 := (hb'.trans (hba.mono (by omega))).trans (hb2.mono (by omega))
  clear hif hb2 hba hRa howna hGa hR hown' hb'
  have hf0 := cell_of_block hG2 0
  have hf1 := cell_of_block hG2 1
  have hf2 := cell_of_block hG2 2
  have hf3 := cell_of_block hG2 3
  have hR0 := cell_of_block hR2 0
  have hR1 := cell_of_block hR2 1
  have hR2' := cell_of_block hR2 2
  have hR3' := cell_of_block hR2 3
  simp at hR0 hR1 hR2' hR3' hf0 hf1 hf2 hf3
  have hq0 := frozen_of_block hR2 0
  have hq1 := frozen_of_block hR2 1
  have hq2 := frozen_of_block hR2 2
  have hq3 := frozen_of_block hR2 3
  have hRlt := block_lt hR2
  have hGlt := block_lt hG2
  have HR := Lib.hid hR2
  clear hR2 hG2
  go_wp2_with fail
  have b3 := block_set (block_set (block_set (block_set HR.out 0 (.int .i64 (gW l))) 1 (.int .i64 (gH l))) 2 (.slice a (gCells l).length cap)) 3 (.bool false)
  refine bodyPost_ret (v := .tuple #[.agg #[.int .i64 (gW l), .int .i64 (gH l), .slice a (gCells l).length cap, .bool false], .bool true]) ?_ rfl ?_
  · have r0 := cell_of_block b3 0
    have r1 := cell_of_block b3 1
    have r2 := cell_of_block b3 2
    have r3 := cell_of_block b3 3
    simp at r0 r1 r2 r3
    simp [results, Tryd.results45, go_sem, r0, r1, r2, r3]
  · have hst := (((hown2.set w.heap.size 0 (.int .i64 (gW l)) (by omega)).set w.heap.size 1 (.int .i64 (gH l)) (by omega)).set w.heap.size 2 (.slice a (gCells l).length cap) (by omega)).set w.heap.size 3 (.bool false) (by omega)
    exact ⟨a, cap, rfl, hst.mono (by omega), hbw2.trans ((((Below.set 0 _).trans (Below.set 1 _)).trans (Below.set 2 _)).trans (Below.set 3 _))⟩

theorem noGridF_ret {B : Nat} {w w' : World} {t0 t1 t2 t3 : Value} {r : List Value} (h : w'.heap[B]? = some (.cells #[.int .i64 0, .int .i64 0, .slice none 0 0, .bool false] 42 (0, 0))) {a : Act}
    (ha : a = { tmps := (t0 :: t1 :: t2 :: t3 :: .pointer (some ⟨B, 0, none⟩) :: .bool false :: r).toArray, defers := [] }) (hb : Below w.heap.size w w') :
    bodyPost Tryd.prog Tryd.f45 (fun e w' => e = .returned NoGrid ∧ Below w.heap.size w w') .ret a w' := by
  subst ha
  have r0 := cell_of_block h 0
  have r1 := cell_of_block h 1
  have r2 := cell_of_block h 2
  have r3 := cell_of_block h 3
  simp at r0 r1 r2 r3
  exact bodyPost_ret (v := NoGrid) (by simp [results, Tryd.results45, go_sem, r0, r1, r2, r3, NoGrid]) rfl ⟨rfl, hb⟩

set_option maxRecDepth 100000 in
set_option maxHeartbeats 1600000 in
theorem readFree_no (l : List UInt8) (c : Int) (w : World) (hM : HasMax w) (hl : l.length ≤ 1048576) (hc : freeOK l c = false) :
    Calls Tryd.prog 45 #[.string ⟨l.toArray⟩, .int .i64 c] w fun e w' => e = .returned NoGrid ∧ Below w.heap.size w w' := by
  have HF : Hid (freeB (gCells l) c = false) := hc
  clear hc
  by_cases hg : boGoodM l = true
  · have HG := Lib.hid hg
    clear hg
    have h64 := gCells_le l
    go_enter Tryd.func45, Tryd.ntmps45
    go_wp2_with fail
    refine (readBoard_any l _ (hM.later ((Below.refl _ _).alloc (Nat.le_refl _) _)) hl).mono ?_
    rintro e w1 ⟨a, cap, rfl, hown, hb⟩
    have hR : w1.heap[w.heap.size]? = some (.cells #[.int .i64 0, .int .i64 0, .slice none 0 0, .bool false] 42 (0, 0)) := by
      rw [hb.block w.heap.size (by simp)]; exact heap_alloc_new w _
    have hs := hb.size
    simp at hs
    have hb' : Below w.heap.size w w1 := ((Below.refl _ w).alloc (Nat.le_refl _) _).trans (hb.mono (by simp))
    have hown' := hown.mono (B' := w.heap.size + 1) (by simp)
    clear hown hb
    rw [HG.out]
    go_wp2_with fail
    have hba : Below w1.heap.size w1 (w1.alloc (.cells #[.int .i64 (gW l), .int .i64 (gH l), .slice a (gCells l).length cap, .bool false] 42)) := (Below.refl _ _).alloc (Nat.le_refl _) _
    have hGa : (w1.alloc (.cells #[.int .i64 (gW l), .int .i64 (gH l), .slice a (gCells l).length cap, .bool false] 42)).heap[w1.heap.size]? = some (.cells #[.int .i64 (gW l), .int .i64 (gH l), .slice a (gCells l).length cap, .bool false] 42 (0, 0)) := heap_alloc_new w1 _
    have hsa : w1.heap.size < (w1.alloc (.cells #[.int .i64 (gW l), .int .i64 (gH l), .slice a (gCells l).length cap, .bool false] 42)).heap.size := by simp
    generalize w1.alloc (.cells #[.int .i64 (gW l), .int .i64 (gH l), .slice a (gCells l).length cap, .bool false] 42) = wa at *
    have hRa := (hba.block w.heap.size (by omega)).trans hR
    have howna := hown'.later hba
    have hif := isFree_any (J := false) (gW l) (gH l) a (gCells l) cap c wa howna.at h64
    rw [show freeB (gCells l) c = false from HF.out] at hif
    refine hif.mono ?_
    rintro e w2 ⟨rfl, hb2⟩
    have hs2 := hb2.size
    have hR2 := (hb2.block w.heap.size (by omega)).trans hRa
    have hG2 := (hb2.block w1.heap.size hsa).trans hGa
    have hown2 := howna.later hb2
    have hbw2 : Below w.heap.size w w2 := (hb'.trans (hba.mono (by omega))).trans (hb2.mono (by omega))
    clear hif hb2 hba hRa howna hGa hR hown' hb'
    have hf0 := cell_of_block hG2 0
    have hf1 := cell_of_block hG2 1
    have hf2 := cell_of_block hG2 2
    have hf3 := cell_of_block hG2 3
    have hR0 := cell_of_block hR2 0
    have hR1 := cell_of_block hR2 1
    have hR2' := cell_of_block hR2 2
    have hR3' := cell_of_block hR2 3
    simp at hR0 hR1 hR2' hR3' hf0 hf1 hf2 hf3
    have hq0 := frozen_of_block hR2 0
    have hq1 := frozen_of_block hR2 1
    have hq2 := frozen_of_block hR2 2
    have hq3 := frozen_of_block hR2 3
    have hRlt := block_lt hR2
    have hGlt := block_lt hG2
    have HR := Lib.hid hR2
    clear hR2 hG2
    go_wp2_with fail
    have b3 := block_set (block_set (block_set (block_set HR.out 0 (.int .i64 0)) 1 (.int .i64 0)) 2 (.slice none 0 0)) 3 (.bool false)
    exact noGridF_ret b3 rfl (hbw2.trans ((((Below.set 0 _).trans (Below.set 1 _)).trans (Below.set 2 _)).trans (Below.set 3 _)))
  · have hg' : boGoodM l = false := by simpa using hg
    have HG := Lib.hid hg'
    clear hg hg'
    have h64 := gCells_le l
    go_enter Tryd.func45, Tryd.ntmps45
    go_wp2_with fail
    refine (readBoard_any l _ (hM.later ((Below.refl _ _).alloc (Nat.le_refl _) _)) hl).mono ?_
    rintro e w1 ⟨a, cap, rfl, hown, hb⟩
    have hR : w1.heap[w.heap.size]? = some (.cells #[.int .i64 0, .int .i64 0, .slice none 0 0, .bool false] 42 (0, 0)) := by
      rw [hb.block w.heap.size (by simp)]; exact heap_alloc_new w _
    have hs := hb.size
    simp at hs
    have hb' : Below w.heap.size w w1 := ((Below.refl _ w).alloc (Nat.le_refl _) _).trans (hb.mono (by simp))
    have hown' := hown.mono (B' := w.heap.size + 1) (by simp)
    clear hown hb
    rw [HG.out]
    have hR0 := cell_of_block hR 0
    have hR1 := cell_of_block hR 1
    have hR2 := cell_of_block hR 2
    have hR3 := cell_of_block hR 3
    simp at hR0 hR1 hR2 hR3
    have hq0 := frozen_of_block hR 0
    have hq1 := frozen_of_block hR 1
    have hq2 := frozen_of_block hR 2
    have hq3 := frozen_of_block hR 3
    have hRlt := block_lt hR
    have HR := Lib.hid hR
    clear hR
    go_wp2_with fail
    have b3 := block_set (block_set (block_set (block_set HR.out 0 (.int .i64 0)) 1 (.int .i64 0)) 2 (.slice none 0 0)) 3 (.bool false)
    exact noGridF_ret ((Below.heap_alloc _ _ _ (block_lt b3)).trans b3) rfl ((hb'.trans ((((Below.set 0 _).trans (Below.set 1 _)).trans (Below.set 2 _)).trans (Below.set 3 _))).alloc (by simp [World.setCell]; omega) _)

/-- What OpenedBy hands back. -/
def opOf (l : List UInt8) (c : Int) : List Nat := if freeOK l c = true then opM (gCells l) (gW l) c.toNat else []
theorem opOf_len (l : List UInt8) (c : Int) : (opOf l c).length ≤ 1048576 := by
  unfold opOf
  split
  · exact Nat.le_trans (opM_le _ _ _) (Nat.le_trans (gCells_le l) (by decide))
  · simp

end Go.Proofs.YtndmkbkmfonefacDoor
