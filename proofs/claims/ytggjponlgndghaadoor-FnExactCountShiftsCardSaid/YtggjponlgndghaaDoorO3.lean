/- Joined boards by the program: a joined board is read. -/
import Derived.Test.YtggjponlgndghaaDoorO1
import Derived.Test.YtggjponlgndghaaDoorGN1
import Derived.Test.YtggjponlgndghaaDoorGY1
import Derived.Outline
namespace Go.Proofs.YtggjponlgndghaaDoor
open Go.RowKit

/-- What the program reads of a text: the cells of a joined board, or none. -/
def jC (l : List UInt8) : List UInt8 := if joB l = true then gCells l else []
def jW (l : List UInt8) : Nat := if joB l = true then gW l else 0
def jH (l : List UInt8) : Nat := if joB l = true then gH l else 0
theorem joB_good {l : List UInt8} (h : joB l = true) : boGoodM l = true := by
  unfold joB at h
  simp at h
  exact h.1
theorem joB_sizes {l : List UInt8} (h : joB l = true) : 3 ≤ gW l ∧ 3 ≤ gH l := by
  have hg := joB_good h
  unfold joB at h
  simp at h
  unfold gW gH
  rw [if_pos hg, if_pos hg]
  omega
theorem joB_min (l : List UInt8) (hg : boGoodM l = true) : joB l = decide (3 ≤ min (gW l) (gH l)) := by
  unfold joB gW gH
  rw [if_pos hg, if_pos hg, hg, Bool.eq_iff_iff]
  simp
  omega
theorem jC_le (l : List UInt8) : (jC l).length ≤ 64 := by
  unfold jC; split
  · exact gCells_le l
  · simp
theorem jC_len (l : List UInt8) : (jC l).length = jW l * jH l := by
  unfold jC jW jH; split
  · exact gCells_len l
  · simp
theorem jW_le (l : List UInt8) : jW l ≤ 8 := by
  unfold jW; split
  · exact gW_le l
  · omega
theorem jH_le (l : List UInt8) : jH l ≤ 8 := by
  unfold jH; split
  · exact gH_le l
  · omega
theorem jSize (l : List UInt8) : (jW l = 0 ∧ jH l = 0) ∨ ((1 ≤ jW l ∧ jW l ≤ 8) ∧ (1 ≤ jH l ∧ jH l ≤ 8)) := by
  by_cases h : joB l = true
  · have h1 := joB_sizes h
    have h2 := gW_le l
    have h3 := gH_le l
    unfold jW jH
    rw [if_pos h, if_pos h]
    omega
  · left; unfold jW jH; rw [if_neg h, if_neg h]; exact ⟨rfl, rfl⟩
theorem jJ (l : List UInt8) : joB l = true → (1 ≤ jW l ∧ jW l ≤ 1048576) ∧ (1 ≤ jH l ∧ jH l ≤ 1048576) := fun h => by
  have h1 := joB_sizes h
  have h2 := gW_le l
  have h3 := gH_le l
  unfold jW jH
  rw [if_pos h, if_pos h]
  omega
theorem jW_pos (l : List UInt8) : 0 < (jC l).length → 1 ≤ jW l := by
  intro h
  have h2 := jC_len l
  rcases jSize l with h1 | h1
  · rw [h1.1] at h2; omega
  · exact h1.1.1

theorem noGridJ_ret {B : Nat} {w w' : World} {t0 t1 : Value} {r : List Value} {v : Value} (h : w'.heap[B]? = some (.cells #[.int .i64 0, .int .i64 0, .slice none 0 0, .bool false] 43 (0, 0))) {a : Act}
    (ha : a = { tmps := (t0 :: t1 :: .pointer (some ⟨B, 0, none⟩) :: .bool false :: r).toArray, defers := [] }) (hv : v = NoGrid) (hb : Below w.heap.size w w') :
    bodyPost Tryd.prog Tryd.f34 (fun e w' => e = .returned v ∧ Below w.heap.size w w') .ret a w' := by
  subst ha
  subst hv
  have r0 := cell_of_block h 0
  have r1 := cell_of_block h 1
  have r2 := cell_of_block h 2
  have r3 := cell_of_block h 3
  simp at r0 r1 r2 r3
  exact bodyPost_ret (v := NoGrid) (by simp [results, Tryd.results34, go_sem, r0, r1, r2, r3, NoGrid]) rfl ⟨rfl, hb⟩

set_option maxRecDepth 100000 in
set_option maxHeartbeats 1600000 in
theorem readJoined_no (l : List UInt8) (w : World) (hM : HasMax w) (hl : l.length ≤ 1048576) (hj : joB l = false) :
    Calls Tryd.prog 34 #[.string ⟨l.toArray⟩] w fun e w' => e = .returned NoGrid ∧ Below w.heap.size w w' := by
  go_enter Tryd.func34, Tryd.ntmps34
  go_wp2_with fail
  refine (readBoard_any l _ (hM.later ((Below.refl _ _).alloc (Nat.le_refl _) _)) hl).mono ?_
  rintro e w1 ⟨a, cap, rfl, hown, hb⟩
  have hR : w1.heap[w.heap.size]? = some (.cells #[.int .i64 0, .int .i64 0, .slice none 0 0, .bool false] 43 (0, 0)) := by
    rw [hb.block w.heap.size (by simp)]; exact heap_alloc_new w _
  have hs := hb.size
  simp at hs
  have hb' : Below w.heap.size w w1 := ((Below.refl _ w).alloc (Nat.le_refl _) _).trans (hb.mono (by simp))
  clear hown hb
  have hRlt := block_lt hR
  have hR0 := cell_of_block hR 0
  have hR1 := cell_of_block hR 1
  have hR2 := cell_of_block hR 2
  have hR3 := cell_of_block hR 3
  simp at hR0 hR1 hR2 hR3
  have hq0 := frozen_of_block hR 0
  have hq1 := frozen_of_block hR 1
  have hq2 := frozen_of_block hR 2
  have hq3 := frozen_of_block hR 3
  have HR := Lib.hid hR
  clear hR
  have b3 := Lib.hid (block_set (block_set (block_set (block_set HR.out 0 (.int .i64 0)) 1 (.int .i64 0)) 2 (.slice none 0 0)) 3 (.bool false))
  by_cases hg : boGoodM l = true
  · have hmn := joB_min l hg
    rw [hj] at hmn
    have hm2 : ¬ 3 ≤ min (gW l) (gH l) := by simpa using hmn.symm
    have hW8 := gW_le l
    have hH8 := gH_le l
    have HG := Lib.hid hg
    clear hmn hj hg
    rw [HG.out]
    generalize gW l = W at *
    generalize gH l = H at *
    generalize (gCells l).length = n at *
    rcases Nat.le_total W H with h | h
    · have hmI : min (W : Int) (H : Int) = (W : Int) := by omega
      have hlt : (W : Int) < 3 := by omega
      clear h hm2
      go_wp2_with fail
      exact noGridJ_ret ((Below.heap_alloc _ _ _ (block_lt b3.out)).trans b3.out) rfl rfl ((hb'.trans ((((Below.set 0 _).trans (Below.set 1 _)).trans (Below.set 2 _)).trans (Below.set 3 _))).alloc (by simp [World.setCell]; omega) _)
    · have hmI : min (W : Int) (H : Int) = (H : Int) := by omega
      have hlt : (H : Int) < 3 := by omega
      clear h hm2
      go_wp2_with fail
      exact noGridJ_ret ((Below.heap_alloc _ _ _ (block_lt b3.out)).trans b3.out) rfl rfl ((hb'.trans ((((Below.set 0 _).trans (Below.set 1 _)).trans (Below.set 2 _)).trans (Below.set 3 _))).alloc (by simp [World.setCell]; omega) _)
  · have hg' : boGoodM l = false := by simpa using hg
    have HG := Lib.hid hg'
    clear hg hg' hj
    rw [HG.out]
    go_wp2_with fail
    exact noGridJ_ret ((Below.heap_alloc _ _ _ (block_lt b3.out)).trans b3.out) rfl rfl ((hb'.trans ((((Below.set 0 _).trans (Below.set 1 _)).trans (Below.set 2 _)).trans (Below.set 3 _))).alloc (by simp [World.setCell]; omega) _)

set_option maxRecDepth 100000 in
set_option maxHeartbeats 1600000 in
theorem readJoined_yes (l : List UInt8) (w : World) (hM : HasMax w) (hl : l.length ≤ 1048576) (hj : joB l = true) :
    Calls Tryd.prog 34 #[.string ⟨l.toArray⟩] w fun e w' => ∃ a cap, e = .returned (.tuple #[.agg #[.int .i64 (gW l), .int .i64 (gH l), .slice a (gCells l).length cap, .bool true], .bool true])
      ∧ Owns w' w.heap.size 5 (.slice a (gCells l).length cap) (byts (gCells l)) ∧ Below w.heap.size w w' := by
  have hg := joB_good hj
  have hmn := joB_sizes hj
  have hrb := fun w hM => readBoard_any l w hM hl
  have h64 := gCells_le l
  have hW8 := gW_le l
  have hH8 := gH_le l
  rw [hg] at hrb
  have HRB := Lib.hid hrb
  clear hg hj hrb
  generalize gW l = W at *
  generalize gH l = H at *
  generalize gCells l = cells at *
  go_enter Tryd.func34, Tryd.ntmps34
  go_wp2_with fail
  refine (HRB.out _ (hM.later ((Below.refl _ _).alloc (Nat.le_refl _) _))).mono ?_
  rintro e w1 ⟨a, cap, rfl, hown, hb⟩
  have hR : w1.heap[w.heap.size]? = some (.cells #[.int .i64 0, .int .i64 0, .slice none 0 0, .bool false] 43 (0, 0)) := by
    rw [hb.block w.heap.size (by simp)]; exact heap_alloc_new w _
  have hs := hb.size
  simp at hs
  have hb' : Below w.heap.size w w1 := ((Below.refl _ w).alloc (Nat.le_refl _) _).trans (hb.mono (by simp))
  have hown' := hown.mono (B' := w.heap.size + 1) (by simp)
  clear hown hb
  have hba : ∀ o, Below w1.heap.size w1 (w1.alloc o) := fun o => (Below.refl _ _).alloc (Nat.le_refl _) _
  have hRa := fun o => ((hba o).block w.heap.size (by omega)).trans hR
  have hR0 : ∀ o, (w1.alloc o).cell? ⟨w.heap.size, 0, none⟩ = some (.int .i64 0) := fun o => by have := cell_of_block (hRa o) 0; simpa using this
  have hR1 : ∀ o, (w1.alloc o).cell? ⟨w.heap.size, 1, none⟩ = some (.int .i64 0) := fun o => by have := cell_of_block (hRa o) 1; simpa using this
  have hR2 : ∀ o, (w1.alloc o).cell? ⟨w.heap.size, 2, none⟩ = some (.slice none 0 0) := fun o => by have := cell_of_block (hRa o) 2; simpa using this
  have hR3 : ∀ o, (w1.alloc o).cell? ⟨w.heap.size, 3, none⟩ = some (.bool false) := fun o => by have := cell_of_block (hRa o) 3; simpa using this
  have hq0 := fun o => frozen_of_block (hRa o) 0
  have hq1 := fun o => frozen_of_block (hRa o) 1
  have hq2 := fun o => frozen_of_block (hRa o) 2
  have hq3 := fun o => frozen_of_block (hRa o) 3
  have b3 := block_set (block_set (block_set (block_set (hRa (.cells #[.int .i64 W, .int .i64 H, .slice a cells.length cap, .bool true] 43)) 0 (.int .i64 W)) 1 (.int .i64 H)) 2 (.slice a cells.length cap)) 3 (.bool true)
  have r0 := cell_of_block b3 0
  have r1 := cell_of_block b3 1
  have r2 := cell_of_block b3 2
  have r3 := cell_of_block b3 3
  simp at r0 r1 r2 r3
  have hst := ((((hown'.later (hba (.cells #[.int .i64 W, .int .i64 H, .slice a cells.length cap, .bool true] 43))).set w.heap.size 0 (.int .i64 W) (by omega)).set w.heap.size 1 (.int .i64 H) (by omega)).set w.heap.size 2 (.slice a cells.length cap) (by omega)).set w.heap.size 3 (.bool true) (by omega)
  have HOW := Lib.hid (hst.mono (show w.heap.size ≤ w.heap.size + 1 by omega))
  have HBW := Lib.hid ((hb'.trans ((hba (.cells #[.int .i64 W, .int .i64 H, .slice a cells.length cap, .bool true] 43)).mono (by omega))).trans ((((Below.set (w := w1.alloc (.cells #[.int .i64 W, .int .i64 H, .slice a cells.length cap, .bool true] 43)) (g := w.heap.size) 0 (.int .i64 W)).trans (Below.set 1 (.int .i64 H))).trans (Below.set 2 (.slice a cells.length cap))).trans (Below.set 3 (.bool true))))
  clear hst b3 hRa hba hR hown' hb'
  rcases Nat.le_total W H with h | h
  · have hmI : min (W : Int) (H : Int) = (W : Int) := by omega
    have hlt : ¬ (W : Int) < 3 := by omega
    clear h hmn
    go_wp2_with fail
    refine bodyPost_ret (v := .tuple #[.agg #[.int .i64 W, .int .i64 H, .slice a cells.length cap, .bool true], .bool true]) ?_ rfl ⟨a, cap, rfl, HOW.out, HBW.out⟩
    simp [results, Tryd.results34, go_sem, r0, r1, r2, r3]
  · have hmI : min (W : Int) (H : Int) = (H : Int) := by omega
    have hlt : ¬ (H : Int) < 3 := by omega
    clear h hmn
    go_wp2_with fail
    refine bodyPost_ret (v := .tuple #[.agg #[.int .i64 W, .int .i64 H, .slice a cells.length cap, .bool true], .bool true]) ?_ rfl ⟨a, cap, rfl, HOW.out, HBW.out⟩
    simp [results, Tryd.results34, go_sem, r0, r1, r2, r3]

/-- What readJoined hands back, of whatever text. -/
theorem readJoined_any (l : List UInt8) (w : World) (hM : HasMax w) (hl : l.length ≤ 1048576) :
    Calls Tryd.prog 34 #[.string ⟨l.toArray⟩] w fun e w' => ∃ a cap, e = .returned (.tuple #[.agg #[.int .i64 (jW l), .int .i64 (jH l), .slice a (jC l).length cap, .bool (joB l)], .bool (joB l)])
      ∧ Owns w' w.heap.size 5 (.slice a (jC l).length cap) (byts (jC l)) ∧ Below w.heap.size w w' := by
  cases h : joB l with
  | true =>
    rw [jC, jW, jH, if_pos h, if_pos h, if_pos h]
    exact readJoined_yes l w hM hl h
  | false =>
    have hn : ¬ joB l = true := by rw [h]; decide
    rw [jC, jW, jH, if_neg hn, if_neg hn, if_neg hn]
    refine (readJoined_no l w hM hl h).mono ?_
    rintro e w' ⟨rfl, hb⟩
    exact ⟨none, 0, rfl, Owns.nil _ _ _, hb⟩

/-- Are there a joined board and a cell of it? -/
def jOK (l : List UInt8) (c : Int) : Bool := joB l && inC (jC l).length c
theorem jOK_yes {l : List UInt8} {c : Int} (h : jOK l c = true) : joB l = true ∧ inC (jC l).length c = true := by simpa [jOK] using h
theorem jOK_no {l : List UInt8} {c : Int} (h : jOK l c = false) : inC (jC l).length c = false := by
  cases hj : joB l with
  | true => simpa [jOK, hj] using h
  | false =>
    have hn : ¬ joB l = true := by rw [hj]; decide
    rw [jC, if_neg hn]
    simp [inC]
set_option maxRecDepth 100000 in
set_option maxHeartbeats 1600000 in
theorem readJWith_yes (l : List UInt8) (c : Int) (w : World) (hM : HasMax w) (hl : l.length ≤ 1048576) (hc : jOK l c = true) :
    Calls Tryd.prog 38 #[.string ⟨l.toArray⟩, .int .i64 c] w fun e w' => ∃ a cap, e = .returned (.tuple #[.agg #[.int .i64 (jW l), .int .i64 (jH l), .slice a (jC l).length cap, .bool true], .bool true])
      ∧ Owns w' w.heap.size 5 (.slice a (jC l).length cap) (byts (jC l)) ∧ Below w.heap.size w w' := by
  have HG := Lib.hid (jOK_yes hc).1
  have HF : Hid (inC (jC l).length c = true) := (jOK_yes hc).2
  clear hc
  have h64 := jC_le l
  go_enter Tryd.func38, Tryd.ntmps38
  go_wp2_with fail
  refine (readJoined_any l _ (hM.later ((Below.refl _ _).alloc (Nat.le_refl _) _)) hl).mono ?_
  rintro e w1 ⟨a, cap, rfl, hown, hb⟩
  have hR : w1.heap[w.heap.size]? = some (.cells #[.int .i64 0, .int .i64 0, .slice none 0 0, .bool false] 43 (0, 0)) := by
    rw [hb.block w.heap.size (by simp)]; exact heap_alloc_new w _
  have hs := hb.size
  simp at hs
  have hb' : Below w.heap.size w w1 := ((Below.refl _ w).alloc (Nat.le_refl _) _).trans (hb.mono (by simp))
  have hown' := hown.mono (B' := w.heap.size + 1) (by simp)
  clear hown hb
  rw [HG.out]
  go_wp2_with fail
  have hba : Below w1.heap.size w1 (w1.alloc (.cells #[.int .i64 (jW l), .int .i64 (jH l), .slice a (jC l).length cap, .bool true] 43)) := (Below.refl _ _).alloc (Nat.le_refl _) _
  have hGa : (w1.alloc (.cells #[.int .i64 (jW l), .int .i64 (jH l), .slice a (jC l).length cap, .bool true] 43)).heap[w1.heap.size]? = some (.cells #[.int .i64 (jW l), .int .i64 (jH l), .slice a (jC l).length cap, .bool true] 43 (0, 0)) := heap_alloc_new w1 _
  have hsa : w1.heap.size < (w1.alloc (.cells #[.int .i64 (jW l), .int .i64 (jH l), .slice a (jC l).length cap, .bool true] 43)).heap.size := by simp
  generalize w1.alloc (.cells #[.int .i64 (jW l), .int .i64 (jH l), .slice a (jC l).length cap, .bool true] 43) = wa at *
  have hRa := (hba.block w.heap.size (by omega)).trans hR
  have howna := hown'.later hba
  have hif := hasCell_any (J := true) (jW l) (jH l) a (jC l).length cap c wa
  rw [show inC (jC l).length c = true from HF.out] at hif
  refine hif.mono ?_
  rintro e w2 ⟨rfl, hb2⟩
  have hs2 := hb2.size
  have hR2 := (hb2.block w.heap.size (by omega)).trans hRa
  have hG2 := (hb2.block w1.heap.size hsa).trans hGa
  have hown2 := howna.later hb2
  have hbw2 : Below w.heap.size w w2 := (hb'.trans (hba.mono (by omega))).trans (hb2.mono (by omega))
  clear hif hb2 hba hRa howna hGa hR hown' hb'
  have hf0 := cell_of_block hG2 0
  have hf1 := cell_of_block hG2 1
  have hf2 := cell_of_block hG2 2
  have hf3 := cell_of_block hG2 3
  have hR0 := cell_of_block hR2 0
  have hR1 := cell_of_block hR2 1
  have hR2' := cell_of_block hR2 2
  have hR3' := cell_of_block hR2 3
  simp at hR0 hR1 hR2' hR3' hf0 hf1 hf2 hf3
  have hq0 := frozen_of_block hR2 0
  have hq1 := frozen_of_block hR2 1
  have hq2 := frozen_of_block hR2 2
  have hq3 := frozen_of_block hR2 3
  have hRlt := block_lt hR2
  have hGlt := block_lt hG2
  have HR := Lib.hid hR2
  clear hR2 hG2
  go_wp2_with fail
  have b3 := block_set (block_set (block_set (block_set HR.out 0 (.int .i64 (jW l))) 1 (.int .i64 (jH l))) 2 (.slice a (jC l).length cap)) 3 (.bool true)
  refine bodyPost_ret (v := .tuple #[.agg #[.int .i64 (jW l), .int .i64 (jH l), .slice a (jC l).length cap, .bool true], .bool true]) ?_ rfl ?_
  · have r0 := cell_of_block b3 0
    have r1 := cell_of_block b3 1
    have r2 := cell_of_block b3 2
    have r3 := cell_of_block b3 3
    simp at r0 r1 r2 r3
    simp [results, Tryd.results38, go_sem, r0, r1, r2, r3]
  · have hst := (((hown2.set w.heap.size 0 (.int .i64 (jW l)) (by omega)).set w.heap.size 1 (.int .i64 (jH l)) (by omega)).set w.heap.size 2 (.slice a (jC l).length cap) (by omega)).set w.heap.size 3 (.bool true) (by omega)
    exact ⟨a, cap, rfl, hst.mono (by omega), hbw2.trans ((((Below.set 0 _).trans (Below.set 1 _)).trans (Below.set 2 _)).trans (Below.set 3 _))⟩

theorem noGridJW_ret {B : Nat} {w w' : World} {t0 t1 t2 t3 : Value} {r : List Value} (h : w'.heap[B]? = some (.cells #[.int .i64 0, .int .i64 0, .slice none 0 0, .bool false] 43 (0, 0))) {a : Act}
    (ha : a = { tmps := (t0 :: t1 :: t2 :: t3 :: .pointer (some ⟨B, 0, none⟩) :: .bool false :: r).toArray, defers := [] }) (hb : Below w.heap.size w w') :
    bodyPost Tryd.prog Tryd.f38 (fun e w' => e = .returned NoGrid ∧ Below w.heap.size w w') .ret a w' := by
  subst ha
  have r0 := cell_of_block h 0
  have r1 := cell_of_block h 1
  have r2 := cell_of_block h 2
  have r3 := cell_of_block h 3
  simp at r0 r1 r2 r3
  exact bodyPost_ret (v := NoGrid) (by simp [results, Tryd.results38, go_sem, r0, r1, r2, r3, NoGrid]) rfl ⟨rfl, hb⟩

set_option maxRecDepth 100000 in
set_option maxHeartbeats 1600000 in
theorem readJWith_no (l : List UInt8) (c : Int) (w : World) (hM : HasMax w) (hl : l.length ≤ 1048576) (hc : jOK l c = false) :
    Calls Tryd.prog 38 #[.string ⟨l.toArray⟩, .int .i64 c] w fun e w' => e = .returned NoGrid ∧ Below w.heap.size w w' := by
  have HF : Hid (inC (jC l).length c = false) := jOK_no hc
  clear hc
  by_cases hg : joB l = true
  · have HG := Lib.hid hg
    clear hg
    have h64 := jC_le l
    go_enter Tryd.func38, Tryd.ntmps38
    go_wp2_with fail
    refine (readJoined_any l _ (hM.later ((Below.refl _ _).alloc (Nat.le_refl _) _)) hl).mono ?_
    rintro e w1 ⟨a, cap, rfl, hown, hb⟩
    have hR : w1.heap[w.heap.size]? = some (.cells #[.int .i64 0, .int .i64 0, .slice none 0 0, .bool false] 43 (0, 0)) := by
      rw [hb.block w.heap.size (by simp)]; exact heap_alloc_new w _
    have hs := hb.size
    simp at hs
    have hb' : Below w.heap.size w w1 := ((Below.refl _ w).alloc (Nat.le_refl _) _).trans (hb.mono (by simp))
    have hown' := hown.mono (B' := w.heap.size + 1) (by simp)
    clear hown hb
    rw [HG.out]
    go_wp2_with fail
    have hba : Below w1.heap.size w1 (w1.alloc (.cells #[.int .i64 (jW l), .int .i64 (jH l), .slice a (jC l).length cap, .bool true] 43)) := (Below.refl _ _).alloc (Nat.le_refl _) _
    have hGa : (w1.alloc (.cells #[.int .i64 (jW l), .int .i64 (jH l), .slice a (jC l).length cap, .bool true] 43)).heap[w1.heap.size]? = some (.cells #[.int .i64 (jW l), .int .i64 (jH l), .slice a (jC l).length cap, .bool true] 43 (0, 0)) := heap_alloc_new w1 _
    have hsa : w1.heap.size < (w1.alloc (.cells #[.int .i64 (jW l), .int .i64 (jH l), .slice a (jC l).length cap, .bool true] 43)).heap.size := by simp
    generalize w1.alloc (.cells #[.int .i64 (jW l), .int .i64 (jH l), .slice a (jC l).length cap, .bool true] 43) = wa at *
    have hRa := (hba.block w.heap.size (by omega)).trans hR
    have howna := hown'.later hba
    have hif := hasCell_any (J := true) (jW l) (jH l) a (jC l).length cap c wa
    rw [show inC (jC l).length c = false from HF.out] at hif
    refine hif.mono ?_
    rintro e w2 ⟨rfl, hb2⟩
    have hs2 := hb2.size
    have hR2 := (hb2.block w.heap.size (by omega)).trans hRa
    have hG2 := (hb2.block w1.heap.size hsa).trans hGa
    have hown2 := howna.later hb2
    have hbw2 : Below w.heap.size w w2 := (hb'.trans (hba.mono (by omega))).trans (hb2.mono (by omega))
    clear hif hb2 hba hRa howna hGa hR hown' hb'
    have hf0 := cell_of_block hG2 0
    have hf1 := cell_of_block hG2 1
    have hf2 := cell_of_block hG2 2
    have hf3 := cell_of_block hG2 3
    have hR0 := cell_of_block hR2 0
    have hR1 := cell_of_block hR2 1
    have hR2' := cell_of_block hR2 2
    have hR3' := cell_of_block hR2 3
    simp at hR0 hR1 hR2' hR3' hf0 hf1 hf2 hf3
    have hq0 := frozen_of_block hR2 0
    have hq1 := frozen_of_block hR2 1
    have hq2 := frozen_of_block hR2 2
    have hq3 := frozen_of_block hR2 3
    have hRlt := block_lt hR2
    have hGlt := block_lt hG2
    have HR := Lib.hid hR2
    clear hR2 hG2
    go_wp2_with fail
    have b3 := block_set (block_set (block_set (block_set HR.out 0 (.int .i64 0)) 1 (.int .i64 0)) 2 (.slice none 0 0)) 3 (.bool false)
    exact noGridJW_ret b3 rfl (hbw2.trans ((((Below.set 0 _).trans (Below.set 1 _)).trans (Below.set 2 _)).trans (Below.set 3 _)))
  · have hg' : joB l = false := by simpa using hg
    have HG := Lib.hid hg'
    clear hg hg'
    have h64 := jC_le l
    go_enter Tryd.func38, Tryd.ntmps38
    go_wp2_with fail
    refine (readJoined_any l _ (hM.later ((Below.refl _ _).alloc (Nat.le_refl _) _)) hl).mono ?_
    rintro e w1 ⟨a, cap, rfl, hown, hb⟩
    have hR : w1.heap[w.heap.size]? = some (.cells #[.int .i64 0, .int .i64 0, .slice none 0 0, .bool false] 43 (0, 0)) := by
      rw [hb.block w.heap.size (by simp)]; exact heap_alloc_new w _
    have hs := hb.size
    simp at hs
    have hb' : Below w.heap.size w w1 := ((Below.refl _ w).alloc (Nat.le_refl _) _).trans (hb.mono (by simp))
    have hown' := hown.mono (B' := w.heap.size + 1) (by simp)
    clear hown hb
    rw [HG.out]
    have hR0 := cell_of_block hR 0
    have hR1 := cell_of_block hR 1
    have hR2 := cell_of_block hR 2
    have hR3 := cell_of_block hR 3
    simp at hR0 hR1 hR2 hR3
    have hq0 := frozen_of_block hR 0
    have hq1 := frozen_of_block hR 1
    have hq2 := frozen_of_block hR 2
    have hq3 := frozen_of_block hR 3
    have hRlt := block_lt hR
    have HR := Lib.hid hR
    clear hR
    go_wp2_with fail
    have b3 := block_set (block_set (block_set (block_set HR.out 0 (.int .i64 0)) 1 (.int .i64 0)) 2 (.slice none 0 0)) 3 (.bool false)
    exact noGridJW_ret ((Below.heap_alloc _ _ _ (block_lt b3)).trans b3) rfl ((hb'.trans ((((Below.set 0 _).trans (Below.set 1 _)).trans (Below.set 2 _)).trans (Below.set 3 _))).alloc (by simp [World.setCell]; omega) _)
end Go.Proofs.YtggjponlgndghaaDoor
