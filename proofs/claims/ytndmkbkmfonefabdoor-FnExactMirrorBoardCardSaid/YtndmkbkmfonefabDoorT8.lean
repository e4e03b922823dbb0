/- Walks: mines in the free cells and no others, by the model and by the program. -/
import Derived.Test.YtndmkbkmfonefabDoorT7
import Derived.Test.YtndmkbkmfonefabDoorE
import Derived.Deep.RegionHeld3
import Derived.Outline
namespace Go.Proofs.YtndmkbkmfonefabDoor
open Go.RowKit

theorem block_other {w : World} {g b : Nat} (h : b ≠ g) (j : Nat) (v : Value) : (w.setCell ⟨g, j, none⟩ v).heap[b]? = w.heap[b]? := by
  simp [World.setCell, Array.getElem?_modify, Ne.symm h]
theorem map_at (f : UInt8 → UInt8) (cells : List UInt8) (k : Nat) (h : k < ((cells.take k).map f ++ cells.drop k).length) (hlt : k < cells.length) : ((cells.take k).map f ++ cells.drop k)[k] = cells[k] := by
  rw [List.getElem_append_right (by simp; omega)]
  simp only [List.getElem_drop, List.length_map, List.length_take]
  congr 1
  omega
theorem map_step (f : UInt8 → UInt8) (cells : List UInt8) (k : Nat) (hlt : k < cells.length) : ((cells.take k).map f ++ cells.drop k).set k (f cells[k]) = (cells.take (k + 1)).map f ++ cells.drop (k + 1) := by
  rw [List.drop_eq_getElem_cons hlt, List.set_append_right _ _ (by simp; omega), List.take_succ_eq_append_getElem hlt, List.map_append]
  have e : k - ((cells.take k).map f).length = 0 := by simp; omega
  rw [e]
  simp only [List.set_cons_zero, List.map_cons, List.map_nil, List.append_assoc, List.cons_append, List.nil_append]
def otM (l : List UInt8) : List UInt8 := textM ((gCells l).map othB) (gW l) (gH l)
theorem otM_none {l : List UInt8} (h : ¬ boGoodM l = true) : otM l = [] := by
  unfold otM gH
  rw [if_neg h]
  rfl

set_option maxRecDepth 100000 in
set_option maxHeartbeats 800000 in
theorem sOtherBoard_any (l : List UInt8) (w : World) (hl : l.length ≤ 1048576) :
    Calls Tryd.prog 15 #[.string ⟨l.toArray⟩] w fun e w' => e = .returned (.tuple #[.string ⟨(otM l).toArray⟩, .bool (boGoodM l)]) ∧ Below w.heap.size w w' := by
  by_cases hg : boGoodM l = true
  · have hB := Brd.of hg
    generalize headLen (splitB 47 l) = W at *
    generalize (splitB 47 l).length = H at *
    obtain ⟨g1, g2, g3⟩ := hB.grid
    have HO := Lib.hid (show otM l = brGo W 0 ((cellsM l).map othB) by rw [otM, g1, g2, g3, brGo_text W H hB.w1 _ (by simpa using hB.len)])
    have HG := Lib.hid hg
    have HS := Lib.hid hB.size
    have hn64 := hB.n64
    have hof := Lib.hid (ofGo_other (cellsM l) hB.sign (cellsM l).length 0 (by simp))
    have hW1 := hB.w1
    have hW8 := hB.w8
    clear g1 g2 g3 hB
    have hpl := places_le 46 (cellsM l)
    go_enter Tryd.func15, Tryd.ntmps15
    go_wp2_with fail
    refine (boGood_any l _ hl).mono ?_
    rintro e w1 ⟨rfl, hb1⟩
    go_wp2_with fail
    refine (boSize_any l _ hl).mono ?_
    rintro e w2 ⟨rfl, hb2⟩
    rw [HS.out]
    go_wp2_with fail
    refine (boCells_any l _ hl).mono ?_
    rintro e w2' ⟨rfl, rfl⟩
    generalize cellsM l = cells at *
    go_wp2_with fail
    refine (boMines_any cells 46 _ rfl _ (by omega)).mono ?_
    rintro e w3 ⟨a, cap, rfl, hown, hb3⟩
    have hat := hown.at
    have hbo := fun w h => boOf_any ((places 46 cells).map Int.ofNat) cells.length a cap w h (by simp; omega) (by omega)
    simp only [List.length_map] at hbo
    rw [hof.out] at hbo
    go_wp2_with fail
    refine (hbo _ hat).mono ?_
    rintro e w3' ⟨rfl, rfl⟩
    go_wp2_with fail
    refine (boRows_any _ W _ (by simpa using hn64) hW1 (by omega)).mono ?_
    rintro e w3' ⟨rfl, rfl⟩
    go_wp2_with fail
    go_ret2
    have s1 := hb1.size
    have s2 := hb2.size
    exact ⟨by rw [HO.out, HG.out]; rfl, (hb1.trans (hb2.mono s1)).trans (hb3.mono (by omega))⟩
  · have HT := Lib.hid (otM_none hg)
    have hg' : boGoodM l = false := by simpa using hg
    clear hg
    go_enter Tryd.func15, Tryd.ntmps15
    go_wp2_with (go_at_call 43; refine (boGood_any l _ hl).mono ?_; rintro e w1 ⟨rfl, hb1⟩)
    go_ret2
    exact ⟨by rw [HT.out, hg']; rfl, hb1⟩

set_option maxRecDepth 100000 in
theorem otherSign_any (c : UInt8) (w : World) :
    Calls Tryd.prog 49 #[.int .u8 (c.toNat : Int)] w fun e w' => e = .returned (.int .u8 ((othB c).toNat : Int)) ∧ w = w' := by
  by_cases h : c = 42
  · have hd : ((c.toNat : Int) == 42) = true := by rw [is42]; simp [h]
    have HO := Lib.hid (show othB c = 46 by rw [othB, if_pos h])
    clear h
    go_enter Tryd.func49, Tryd.ntmps49
    go_wp2_with fail
    go_ret
    exact ⟨by rw [HO.out]; rfl, rfl⟩
  · have hd : ((c.toNat : Int) == 42) = false := by rw [is42]; simp [h]
    have HO := Lib.hid (show othB c = 42 by rw [othB, if_neg h])
    clear h
    go_enter Tryd.func49, Tryd.ntmps49
    go_wp2_with fail
    go_ret
    exact ⟨by rw [HO.out]; rfl, rfl⟩

set_option maxRecDepth 100000 in
set_option maxHeartbeats 1600000 in
theorem iOtherBoard_any (l : List UInt8) (w : World) (hM : HasMax w) (hl : l.length ≤ 1048576) :
    Calls Tryd.prog 16 #[.string ⟨l.toArray⟩] w fun e w' => e = .returned (.tuple #[.string ⟨(otM l).toArray⟩, .bool (boGoodM l)]) ∧ Below w.heap.size w w' := by
  have hgl := gCells_le l
  have hgs := gSize l
  have hgn := Lib.hid (gCells_len l)
  have HO : Hid (otM l = textM ((gCells l).map othB) (gW l) (gH l)) := rfl
  go_enter Tryd.func16, Tryd.ntmps16
  go_wp2_with fail
  refine (readBoard_any l _ hM hl).mono ?_
  rintro e w1 ⟨a, cap, rfl, hown, hb⟩
  have s1 := hb.size
  have hcap := hown.cap
  generalize gCells l = cells at *
  generalize gW l = W at *
  generalize gH l = H at *
  go_wp2_with fail
  have hG1 : (w1.alloc (.cells #[.int .i64 W, .int .i64 H, .slice a cells.length cap, .bool false] 50)).heap[w1.heap.size]? = some (.cells #[.int .i64 W, .int .i64 H, .slice a cells.length cap, .bool false] 50 (0, 0)) := heap_alloc_new w1 _
  have hs0 : (w1.alloc (.cells #[.int .i64 W, .int .i64 H, .slice a cells.length cap, .bool false] 50)).heap.size = w1.heap.size + 1 := by simp
  have hb0 := hb.alloc s1 (.cells #[.int .i64 W, .int .i64 H, .slice a cells.length cap, .bool false] 50)
  have hown0 := hown.later ((Below.refl _ w1).alloc (Nat.le_refl _) (.cells #[.int .i64 W, .int .i64 H, .slice a cells.length cap, .bool false] 50))
  have hbk := hown.lt
  generalize w1.alloc (.cells #[.int .i64 W, .int .i64 H, .slice a cells.length cap, .bool false] 50) = w0 at *
  have HG1 := Lib.hid hG1
  clear hG1
  go_loopw [16] (fun i wr => ∃ k : Nat, k ≤ cells.length ∧ i = .int .i64 k ∧ Owns wr w.heap.size 5 (.slice a cells.length cap) (byts ((cells.take k).map othB ++ cells.drop k)) ∧ Below w.heap.size w wr ∧ wr.heap[w1.heap.size]? = some (.cells #[.int .i64 W, .int .i64 H, .slice a cells.length cap, .bool false] 50 (0, 0))) (fun i _ => cells.length - (intOf i).toNat)
  case atStart => exact ⟨0, Nat.zero_le _, rfl, by simpa using hown0, hb0, HG1.out⟩
  case round =>
    obtain ⟨k, hk, rfl, hownr, hbr, hGr⟩ := hrel
    have hf0 := cell_of_block hGr 0
    have hf1 := cell_of_block hGr 1
    have hf2 := cell_of_block hGr 2
    have hf3 := cell_of_block hGr 3
    simp at hf0 hf1 hf2 hf3
    by_cases hlt : k < cells.length
    · have hlen : ((cells.take k).map othB ++ cells.drop k).length = cells.length := by simp; omega
      obtain ⟨g, rfl, hg1, hg2⟩ := hownr.zero (by simp; omega)
      obtain ⟨g', o', he, hcell⟩ := byts_at hownr.at k (by omega)
      simp only [Option.some.injEq, Addr.mk.injEq, and_true] at he
      obtain ⟨rfl, rfl⟩ := he
      rw [Nat.zero_add] at hcell
      rw [map_at othB cells k (by omega) hlt] at hcell
      have hnx := Lib.hid (map_step othB cells k hlt)
      have hfr := hownr.froz k
      have hst := fun n => (hownr.later (below_drewN (Below.refl _ wr) n)).put k (.int .u8 ((othB cells[k]).toNat : Int))
      simp only [byts_set] at hst
      go_wp2_with fail
      have hgG : w1.heap.size ≠ g := by have := (hbk g rfl).2; omega
      have hb2 : ∀ v, (wr.setCell ⟨g, k, none⟩ v).heap[w1.heap.size]? = some (.cells #[.int .i64 W, .int .i64 H, .slice (some ⟨g, 0, none⟩) cells.length cap, .bool false] 50 (0, 0)) := fun v => (block_other hgG k v).trans hGr
      have hk2 : ∀ v, (wr.setCell ⟨g, k, none⟩ v).cell? ⟨w1.heap.size, 2, none⟩ = some (.slice (some ⟨g, 0, none⟩) cells.length cap) := fun v => by
        have := cell_of_block (hb2 v) 2
        simpa using this
      go_region_held3 (fun w' => w'.cell? ⟨w1.heap.size, 2, none⟩ = some (.slice (some ⟨g, 0, none⟩) cells.length cap))
        (first | exact hf2 | exact hk2 _)
        ((go_at_call 49; refine (otherSign_any cells[k] _).mono ?_; rintro e w3 ⟨rfl, rfl⟩))
      go_wp2_with fail
      go_roundw
      case rel => exact ⟨k + 1, by omega, by go_num, by rw [← hnx.out]; exact hst 0, (hbr.trans ((Below.set k _).mono hg1)).drew, hb2 _⟩
      case measure => simp [intOf]; omega
    · obtain rfl : k = cells.length := by omega
      clear hlt hk
      rw [List.take_length, List.drop_length, List.append_nil] at hownr
      have ht := text_any W H a (cells.map othB) cap wr hownr.at (by simpa using hcap) (by simpa using hgn.out) hgs
      simp only [List.length_map] at ht
      go_wp2_with fail
      refine ht.mono ?_
      rintro e w5 ⟨rfl, hb5⟩
      go_wp2_with fail
      go_ret2
      exact ⟨by rw [HO.out]; rfl, hbr.trans (hb5.mono hbr.size)⟩
end Go.Proofs.YtndmkbkmfonefabDoor
