/- Walks: boards, sizes and mines as the program tells them. -/
import Derived.Test.YtndmkbkmfonefadDoorI2
import Derived.Deep.QuietTactic
import Derived.BigQuiet
import Derived.WalkSmall
import Derived.Outline
namespace Go.Proofs.YtndmkbkmfonefadDoor
open Go.RowKit

/-- The cells of the grid that the program reads: none if there is no board. -/
def gCells (l : List UInt8) : List UInt8 := if boGoodM l = true then cellsM l else []
theorem gCells_le (l : List UInt8) : (gCells l).length ≤ 64 := by
  unfold gCells
  by_cases h : boGoodM l = true
  · obtain ⟨_, _, f3, f4, _, _, f7, _⟩ := readM_facts h
    rw [if_pos h, f7]
    exact Nat.mul_le_mul f3 f4
  · rw [if_neg h]; simp
theorem gW_le (l : List UInt8) : gW l ≤ 8 := by
  unfold gW
  by_cases h : boGoodM l = true
  · obtain ⟨_, _, f3, _, _, f6, _⟩ := readM_facts h
    rw [if_pos h, f6]; exact f3
  · rw [if_neg h]; omega
theorem gH_le (l : List UInt8) : gH l ≤ 8 := by
  unfold gH
  by_cases h : boGoodM l = true
  · obtain ⟨_, _, _, f4, _, f6, _⟩ := readM_facts h
    rw [if_pos h, f6]; exact f4
  · rw [if_neg h]; omega
theorem gCells_len (l : List UInt8) : (gCells l).length = gW l * gH l := by
  unfold gCells gW gH
  by_cases h : boGoodM l = true
  · obtain ⟨_, _, _, _, _, f6, f7, _⟩ := readM_facts h
    rw [if_pos h, if_pos h, if_pos h, f7, f6]
  · rw [if_neg h, if_neg h]; simp

theorem gr_board (l : List UInt8) : grW rowSign l = gW l ∧ grH rowSign l = gH l ∧ grC rowSign l = gCells l := by
  unfold grW grH grC gW gH gCells
  rw [grid_good]
  by_cases h : boGoodM l = true
  · obtain ⟨_, _, _, _, _, f6, _⟩ := readM_facts h
    simp [h, f6]
  · simp [h]

set_option maxRecDepth 100000 in
theorem readBoard_any (l : List UInt8) (w : World) (hM : HasMax w) (hl : l.length ≤ 1048576) :
    Calls Tryd.prog 57 #[.string ⟨l.toArray⟩] w fun e w' => ∃ a cap, e = .returned (.tuple #[.agg #[.int .i64 (gW l), .int .i64 (gH l), .slice a (gCells l).length cap, .bool false], .bool (boGoodM l)])
      ∧ Owns w' w.heap.size 5 (.slice a (gCells l).length cap) (byts (gCells l)) ∧ Below w.heap.size w w' := by
  obtain ⟨e1, e2, e3⟩ := gr_board l
  have h := fun w hM => readGrid_any rowSign 85 signs_board l w hM hl
  rw [e1, e2, e3, grid_good] at h
  have HH := Lib.hid h
  clear h e1 e2 e3
  go_enter Tryd.func57, Tryd.ntmps57
  go_wp2_with fail
  refine (HH.out _ (hM.later ((Below.refl _ _).alloc (Nat.le_refl _) _))).mono ?_
  rintro e w1 ⟨a, cap, rfl, hown, hb⟩
  have hR : w1.heap[w.heap.size]? = some (.cells #[.int .i64 0, .int .i64 0, .slice none 0 0, .bool false] 45 (0, 0)) := by
    rw [hb.block w.heap.size (by simp)]; exact heap_alloc_new w _
  have hR0 := cell_of_block hR 0
  have hR1 := cell_of_block hR 1
  have hR2 := cell_of_block hR 2
  have hR3 := cell_of_block hR 3
  simp at hR0 hR1 hR2 hR3
  have hq0 := frozen_of_block hR 0
  have hq1 := frozen_of_block hR 1
  have hq2 := frozen_of_block hR 2
  have hq3 := frozen_of_block hR 3
  have HR := Lib.hid hR
  clear hR
  have hb' : Below w.heap.size w w1 := ((Below.refl _ w).alloc (Nat.le_refl _) _).trans (hb.mono (by simp))
  have hown' := hown.mono (B' := w.heap.size + 1) (by simp)
  clear hown hb
  go_wp2_with fail
  have b3 := block_set (block_set (block_set (block_set HR.out 0 (.int .i64 (gW l))) 1 (.int .i64 (gH l))) 2 (.slice a (gCells l).length cap)) 3 (.bool false)
  refine bodyPost_ret (v := .tuple #[.agg #[.int .i64 (gW l), .int .i64 (gH l), .slice a (gCells l).length cap, .bool false], .bool (boGoodM l)]) ?_ rfl ?_
  · have r0 := cell_of_block b3 0
    have r1 := cell_of_block b3 1
    have r2 := cell_of_block b3 2
    have r3 := cell_of_block b3 3
    simp at r0 r1 r2 r3
    simp [results, Tryd.results57, go_sem, r0, r1, r2, r3]
  · have hst := (((hown'.set w.heap.size 0 (.int .i64 (gW l)) (by omega)).set w.heap.size 1 (.int .i64 (gH l)) (by omega)).set w.heap.size 2 (.slice a (gCells l).length cap) (by omega)).set w.heap.size 3 (.bool false) (by omega)
    exact ⟨a, cap, rfl, hst.mono (by omega), hb'.trans ((((Below.set 0 _).trans (Below.set 1 _)).trans (Below.set 2 _)).trans (Below.set 3 _))⟩



set_option maxRecDepth 100000 in
theorem isMine_any {J : Bool} (W H : Nat) (a : Option Addr) (cells : List UInt8) (cap : Nat) (k : Nat) (w : World) (hat : At w a (byts cells)) (hk : k < cells.length) (_hl : cells.length ≤ 64) :
    Calls Tryd.prog 59 #[.agg #[.int .i64 W, .int .i64 H, .slice a cells.length cap, .bool J], .int .i64 k] w fun e w' => e = .returned (.bool ((cells[k].toNat : Int) == 42)) ∧ Below w.heap.size w w' := by
  obtain ⟨b, off, rfl, hc⟩ := byts_at hat k hk
  have hbl := World.block_lt_of_cell? w _ hc
  have hc' : ∀ o, (w.alloc o).cell? ⟨b, off + k, none⟩ = some (.int .u8 (cells[k].toNat : Int)) := fun o => by rw [cell_new w o b hbl]; exact hc
  go_enter Tryd.func59, Tryd.ntmps59
  go_wp2_with fail
  go_ret
  exact ⟨rfl, (Below.refl _ _).alloc (Nat.le_refl _) _⟩

set_option maxRecDepth 100000 in
set_option maxHeartbeats 800000 in
theorem mines_any {J : Bool} (W H : Nat) (a : Option Addr) (cells : List UInt8) (cap : Nat) (w : World) (hat : At w a (byts cells)) (hl : cells.length ≤ 64) :
    Calls Tryd.prog 88 #[.agg #[.int .i64 W, .int .i64 H, .slice a cells.length cap, .bool J]] w fun e w' => ∃ a' cap', e = .returned (.slice a' (places 42 cells).length cap') ∧ Owns w' w.heap.size 3 (.slice a' (places 42 cells).length cap') (nats (places 42 cells)) ∧ Below w.heap.size w w' := by
  go_enter Tryd.func88, Tryd.ntmps88
  go_wp2_with fail
  have hw1 : Below (w.heap.size + 1) (w.alloc (.cells #[.int .i64 W, .int .i64 H, .slice a cells.length cap, .bool J] 45)) (w.alloc (.cells #[.int .i64 W, .int .i64 H, .slice a cells.length cap, .bool J] 45)) := Below.refl _ _
  have hG1 : (w.alloc (.cells #[.int .i64 W, .int .i64 H, .slice a cells.length cap, .bool J] 45)).heap[w.heap.size]? = some (.cells #[.int .i64 W, .int .i64 H, .slice a cells.length cap, .bool J] 45 (0, 0)) := heap_alloc_new w _
  have hw0 : Below w.heap.size w (w.alloc (.cells #[.int .i64 W, .int .i64 H, .slice a cells.length cap, .bool J] 45)) := (Below.refl _ _).alloc (Nat.le_refl _) _
  have hs1 : w.heap.size < (w.alloc (.cells #[.int .i64 W, .int .i64 H, .slice a cells.length cap, .bool J] 45)).heap.size := by simp
  generalize w.alloc (.cells #[.int .i64 W, .int .i64 H, .slice a cells.length cap, .bool J] 45) = w1 at *
  have hat1 : At w1 a (byts cells) := hat.later rfl hw0
  have HG1 := Lib.hid hG1
  clear hG1
  go_loopw [3, 8] (fun v i wr => ∃ k : Nat, k ≤ cells.length ∧ i = .int .i64 k ∧ ∃ acc : List Nat, acc.length ≤ k ∧ Owns wr (w.heap.size + 1) 3 v (nats acc) ∧ Below (w.heap.size + 1) w1 wr ∧ At wr a (byts cells) ∧ Hid (places 42 cells = acc ++ placesGo 42 k (cells.drop k))) (fun _ i _ => cells.length - (intOf i).toNat)
  case atStart => exact ⟨0, Nat.zero_le _, rfl, [], by simp, Owns.nil _ _ _, hw1, hat1, by simp [Hid, places]⟩
  case round =>
    obtain ⟨k, hk, rfl, acc, hacc, hown, hb, hatr, hR⟩ := hrel
    have hGr : wr.heap[w.heap.size]? = some (.cells #[.int .i64 W, .int .i64 H, .slice a cells.length cap, .bool J] 45 (0, 0)) := by rw [hb.block _ (by omega)]; exact HG1.out
    have hGlt := block_lt hGr
    have hf0 := cell_of_block hGr 0
    have hf1 := cell_of_block hGr 1
    have hf2 := cell_of_block hGr 2
    have hf3 := cell_of_block hGr 3
    simp at hf0 hf1 hf2 hf3
    clear hGr
    by_cases hlt : k < cells.length
    · have Ht := Lib.hid (List.drop_eq_getElem_cons hlt)
      by_cases hcb : cells[k] = 42
      · have hd : ((cells[k].toNat : Int) == 42) = true := by rw [show (42 : Int) = ((42 : Nat) : Int) from rfl, byte_beq _ 42 (by omega)]; simp [hcb]
        have Hcb := Lib.hid hcb
        clear hcb
        go_wp2_with fail
        refine (isMine_any W H a cells cap k _ hatr hlt hl).mono ?_
        rintro e w2 ⟨rfl, hb2⟩
        go_wp2_with (at_builtin; refine wpList_app1 rfl _ _ _ rfl _ _ _ _ elemInt _ _ _ _ rfl rfl rfl (hown.later hb2) rfl (by simp; omega) (by have := hb2.size; omega) (by simp; omega) ?_; intro v1 w3 hown1 hb3 hs3)
        rw [nats_snoc] at hown1
        go_roundw
        case rel => exact ⟨k + 1, by omega, by go_num, _, by simp; omega, hown1, (hb.trans (hb2.mono (by omega))).trans hb3, (hatr.later rfl hb2).below hat (by omega) hb3, by rw [Hid, hR.out, Ht.out, placesGo, if_pos Hcb.out]; simp⟩
        case measure => simp [intOf]; omega
      · have hd : ((cells[k].toNat : Int) == 42) = false := by rw [show (42 : Int) = ((42 : Nat) : Int) from rfl, byte_beq _ 42 (by omega)]; simp [hcb]
        have Hcb := Lib.hid hcb
        clear hcb
        go_wp2_with fail
        refine (isMine_any W H a cells cap k _ hatr hlt hl).mono ?_
        rintro e w2 ⟨rfl, hb2⟩
        go_wp2_with fail
        go_roundw
        case rel => exact ⟨k + 1, by omega, by go_num, acc, by omega, hown.later hb2, hb.trans (hb2.mono (by omega)), hatr.later rfl hb2, by rw [Hid, hR.out, Ht.out, placesGo, if_neg Hcb.out]⟩
        case measure => simp [intOf]; omega
    · obtain rfl : k = cells.length := by omega
      go_wp2_with fail
      go_ret
      have hfin : acc = places 42 cells := by rw [hR.out]; simp [placesGo]
      rw [hfin] at hown
      obtain ⟨a', cap', hv⟩ := hown.shape
      simp only [nats_length] at hv
      exact ⟨a', cap', by rw [← hv]; rfl, by rw [← hv]; exact hown.mono (by omega), hw0.trans (hb.mono (by omega))⟩
end Go.Proofs.YtndmkbkmfonefadDoor
