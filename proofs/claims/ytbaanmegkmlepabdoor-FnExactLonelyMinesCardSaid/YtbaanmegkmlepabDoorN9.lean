/- Walks: the sum of the numbers of the free cells, by the model and by the program. -/
import Derived.Test.YtbaanmegkmlepabDoorN6
import Derived.Outline
namespace Go.Proofs.YtbaanmegkmlepabDoor
open Go.RowKit

def sumGo (cells : List UInt8) (W k : Nat) : Nat → Nat
  | 0 => 0
  | m + 1 => if cells.getD k 0 = 42 then sumGo cells W (k + 1) m else numM cells W k + sumGo cells W (k + 1) m
def sumOf (l : List UInt8) : Nat := sumGo (gCells l) (gW l) 0 (gCells l).length
theorem sumGo_le (cells : List UInt8) (W : Nat) : ∀ (m k : Nat), sumGo cells W k m ≤ m * cells.length
  | 0, _ => by simp [sumGo]
  | m + 1, k => by
    have h1 := sumGo_le cells W m (k + 1)
    have h2 := numM_le cells W k
    unfold sumGo
    rw [Nat.add_mul]
    split <;> omega
theorem numsGo_get (cells : List UInt8) (W : Nat) : ∀ (m k j : Nat) (h : j < (numsGo cells W k m).length), (numsGo cells W k m)[j] = numM cells W (k + j)
  | 0, _, _, h => by simp [numsGo] at h
  | m + 1, k, 0, _ => by simp [numsGo]
  | m + 1, k, j + 1, h => by
    simp only [numsGo, List.getElem_cons_succ]
    rw [numsGo_get cells W m (k + 1) j]
    congr 1
    omega
theorem numsM_get (cells : List UInt8) (W j : Nat) (h : j < (numsM cells W).length) : (numsM cells W)[j] = numM cells W j := by
  have e := numsGo_get cells W cells.length 0 j h
  rw [Nat.zero_add] at e
  exact e

set_option maxRecDepth 100000 in
set_option maxHeartbeats 1600000 in
theorem boSum_any (l : List UInt8) (W H : Nat) (cells : List UInt8) (w : World) (hl : l.length ≤ 1048576) (hB : Brd l W H cells) :
    Calls Tryd.prog 52 #[.string ⟨l.toArray⟩] w fun e w' => e = .returned (.int .i64 (sumGo cells W 0 cells.length)) ∧ Below w.heap.size w w' := by
  have hn64 := hB.n64
  have HC := Lib.hid hB.cs
  go_enter Tryd.func52, Tryd.ntmps52
  go_wp2_with fail
  refine (boCells_any l _ hl).mono ?_
  rintro e w1' ⟨rfl, rfl⟩
  rw [HC.out]
  go_wp2_with fail
  refine (boNumbers_any l W H cells _ hl hB).mono ?_
  rintro e w1 ⟨a, cap, rfl, hown, hb⟩
  have hat := hown.at
  clear hown hB
  have hT : Hid (sumGo cells W 0 cells.length = 0 + sumGo cells W 0 (cells.length - 0)) := by simp [Hid]
  go_wp2_with fail
  go_loop [4, 12] (fun q i => ∃ k : Nat, k ≤ cells.length ∧ i = .int .i64 k ∧ ∃ s : Nat, s ≤ k * 64 ∧ q = .int .i64 s ∧ Hid (sumGo cells W 0 cells.length = s + sumGo cells W k (cells.length - k))) (fun _ i => cells.length - (intOf i).toNat)
  case atStart => exact ⟨0, Nat.zero_le _, rfl, 0, by omega, rfl, hT⟩
  case round =>
    obtain ⟨k, hk, rfl, s, hs, rfl, hR⟩ := hrel
    by_cases hlt : k < cells.length
    · obtain ⟨b, off, he, hcell⟩ := nats_at hat k (by simpa using hlt)
      subst he
      rw [numsM_get] at hcell
      have hnum := numM_le cells W k
      have hgd : Hid (cells.getD k 0 = cells[k]) := by simp [Hid, List.getD, hlt]
      have hst : Hid (sumGo cells W k (cells.length - k) = if cells[k] = 42 then sumGo cells W (k + 1) (cells.length - (k + 1)) else numM cells W k + sumGo cells W (k + 1) (cells.length - (k + 1))) := by
        rw [Hid, show cells.length - k = (cells.length - (k + 1)) + 1 by omega, sumGo, hgd.out]
      by_cases h42 : cells[k] = 42
      · have hd : ((cells[k].toNat : Int) != 42) = false := by simp only [bne, is42]; simp [h42]
        have H42 := Lib.hid h42
        clear h42
        go_wp2_with fail
        go_round
        case rel => exact ⟨k + 1, by omega, by go_num, s, by omega, rfl, by rw [Hid, hR.out, hst.out, if_pos H42.out]⟩
        case measure => simp [intOf]; omega
      · have hd : ((cells[k].toNat : Int) != 42) = true := by simp only [bne, is42]; simp [h42]
        have H42 := Lib.hid h42
        clear h42
        go_wp2_with fail
        go_round
        case rel => exact ⟨k + 1, by omega, by go_num, s + numM cells W k, by omega, by go_num, by rw [Hid, hR.out, hst.out, if_neg H42.out]; omega⟩
        case measure => simp [intOf]; omega
    · obtain rfl : k = cells.length := by omega
      have hfin : s = sumGo cells W 0 cells.length := by rw [hR.out]; simp [sumGo]
      go_wp2_with fail
      go_ret
      exact ⟨by rw [← hfin]; rfl, hb⟩

set_option maxRecDepth 100000 in
theorem sSumOfNumbers_any (l : List UInt8) (w : World) (hl : l.length ≤ 1048576) :
    Calls Tryd.prog 16 #[.string ⟨l.toArray⟩] w fun e w' => e = .returned (.tuple #[.int .i64 (sumOf l), .bool (boGoodM l)]) ∧ Below w.heap.size w w' := by
  by_cases hg : boGoodM l = true
  · have hB := Brd.of hg
    generalize headLen (splitB 47 l) = W at *
    generalize (splitB 47 l).length = H at *
    obtain ⟨g1, g2, g3⟩ := hB.grid
    have HN : Hid (sumOf l = sumGo (cellsM l) W 0 (cellsM l).length) := by rw [Hid, sumOf, g1, g3]
    have HG := Lib.hid hg
    clear g1 g2 g3
    go_enter Tryd.func16, Tryd.ntmps16
    go_wp2_with fail
    refine (boGood_any l _ hl).mono ?_
    rintro e w1 ⟨rfl, hb1⟩
    go_wp2_with fail
    refine (boSum_any l W H (cellsM l) _ hl hB).mono ?_
    rintro e w2 ⟨rfl, hb2⟩
    have s1 := hb1.size
    clear hg
    go_wp2_with fail
    go_ret2
    exact ⟨by rw [HN.out, HG.out]; rfl, hb1.trans (hb2.mono s1)⟩
  · have hN : Hid (sumOf l = 0) := by rw [Hid, sumOf, gCells, if_neg hg]; rfl
    have hg' : boGoodM l = false := by simpa using hg
    clear hg
    go_enter Tryd.func16, Tryd.ntmps16
    go_wp2_with (go_at_call 42; refine (boGood_any l _ hl).mono ?_; rintro e w1 ⟨rfl, hb1⟩)
    go_ret2
    exact ⟨by rw [hN.out, hg']; rfl, hb1⟩

set_option maxRecDepth 100000 in
set_option maxHeartbeats 1600000 in
theorem iSumOfNumbers_any (l : List UInt8) (w : World) (hM : HasMax w) (hl : l.length ≤ 1048576) :
    Calls Tryd.prog 17 #[.string ⟨l.toArray⟩] w fun e w' => e = .returned (.tuple #[.int .i64 (sumOf l), .bool (boGoodM l)]) ∧ Below w.heap.size w w' := by
  have h64 := gCells_le l
  have hT : Hid (sumOf l = sumGo (gCells l) (gW l) 0 (gCells l).length) := rfl
  have hw1 : 0 < (gCells l).length → 1 ≤ gW l := fun h => by
    have := gCells_len l
    rcases Nat.eq_zero_or_pos (gW l) with h0 | h0
    · rw [h0] at this; omega
    · exact h0
  go_enter Tryd.func17, Tryd.ntmps17
  go_wp2_with fail
  refine (readBoard_any l _ hM hl).mono ?_
  rintro e w1 ⟨a, cap, rfl, hown, hb⟩
  generalize hCE : gCells l = cells at *
  generalize hWE : gW l = W at *
  generalize hHE : gH l = H at *
  have HCE := Lib.hid hCE
  have HWE := Lib.hid hWE
  have HHE := Lib.hid hHE
  clear hCE hWE hHE
  go_wp2_with fail
  have hG1 : (w1.alloc (.cells #[.int .i64 W, .int .i64 H, .slice a cells.length cap] 47)).heap[w1.heap.size]? = some (.cells #[.int .i64 W, .int .i64 H, .slice a cells.length cap] 47 (0, 0)) := heap_alloc_new w1 _
  have hw0 : Below w1.heap.size w1 (w1.alloc (.cells #[.int .i64 W, .int .i64 H, .slice a cells.length cap] 47)) := (Below.refl _ _).alloc (Nat.le_refl _) _
  have hs0 : w1.heap.size < (w1.alloc (.cells #[.int .i64 W, .int .i64 H, .slice a cells.length cap] 47)).heap.size := by simp
  have hsz := hb.size
  have hb0 := hb.trans (hw0.mono hsz)
  have hat : At (w1.alloc (.cells #[.int .i64 W, .int .i64 H, .slice a cells.length cap] 47)) a (byts cells) := (hown.at).later rfl hw0
  generalize w1.alloc (.cells #[.int .i64 W, .int .i64 H, .slice a cells.length cap] 47) = w2 at *
  have HG1 := Lib.hid hG1
  clear hG1 hown
  go_loopw [6, 16] (fun q i wr => ∃ k : Nat, k ≤ cells.length ∧ i = .int .i64 k ∧ ∃ s : Nat, s ≤ k * 64 ∧ q = .int .i64 s ∧ Below w2.heap.size w2 wr ∧ Hid (sumOf l = s + sumGo cells W k (cells.length - k))) (fun _ i _ => cells.length - (intOf i).toNat)
  case atStart => exact ⟨0, Nat.zero_le _, rfl, 0, by omega, rfl, Below.refl _ _, by rw [Hid, hT.out]; simp⟩
  case round =>
    obtain ⟨k, hk, rfl, s, hs, rfl, hbr, hR⟩ := hrel
    have sr := hbr.size
    have hatr := hat.later rfl hbr
    have hGr : wr.heap[w1.heap.size]? = some (.cells #[.int .i64 W, .int .i64 H, .slice a cells.length cap] 47 (0, 0)) := by rw [hbr.block _ (by omega)]; exact HG1.out
    have hGlt := block_lt hGr
    have hf0 := cell_of_block hGr 0
    have hf1 := cell_of_block hGr 1
    have hf2 := cell_of_block hGr 2
    simp at hf0 hf1 hf2
    have HGr := Lib.hid hGr
    clear hGr
    by_cases hlt : k < cells.length
    · have hW1 := hw1 (by omega)
      have hnum := numM_le cells W k
      have hgd : Hid (cells.getD k 0 = cells[k]) := by simp [Hid, List.getD, hlt]
      have hst : Hid (sumGo cells W k (cells.length - k) = if cells[k] = 42 then sumGo cells W (k + 1) (cells.length - (k + 1)) else numM cells W k + sumGo cells W (k + 1) (cells.length - (k + 1))) := by
        rw [Hid, show cells.length - k = (cells.length - (k + 1)) + 1 by omega, sumGo, hgd.out]
      by_cases h42 : cells[k] = 42
      · have hd : ((cells[k].toNat : Int) == 42) = true := by rw [is42]; simp [h42]
        have H42 := Lib.hid h42
        clear h42
        go_wp2_with (go_at_call 48; refine (isMine_any W H a cells cap k _ hatr hlt h64).mono ?_; rintro e w3 ⟨rfl, hb3⟩)
        go_roundw
        case rel => exact ⟨k + 1, by omega, by go_num, s, by omega, rfl, hbr.trans (hb3.mono sr), by rw [Hid, hR.out, hst.out, if_pos H42.out]⟩
        case measure => simp [intOf]; omega
      · have hd : ((cells[k].toNat : Int) == 42) = false := by rw [is42]; simp [h42]
        have H42 := Lib.hid h42
        clear h42
        go_wp2_with fail
        refine (isMine_any W H a cells cap k _ hatr hlt h64).mono ?_
        rintro e w3 ⟨rfl, hb3⟩
        have s3 := hb3.size
        have hatr3 := hatr.later rfl hb3
        have hGr3 : w3.heap[w1.heap.size]? = some (.cells #[.int .i64 W, .int .i64 H, .slice a cells.length cap] 47 (0, 0)) := by rw [hb3.block _ hGlt]; exact HGr.out
        have hg0 := cell_of_block hGr3 0
        have hg1 := cell_of_block hGr3 1
        have hg2 := cell_of_block hGr3 2
        simp at hg0 hg1 hg2
        clear hGr3
        go_wp2_with fail
        refine (number_any W H a cells cap k _ hatr3 hW1 hlt h64).mono ?_
        rintro e w4 ⟨rfl, hb4⟩
        go_wp2_with fail
        go_roundw
        case rel => exact ⟨k + 1, by omega, by go_num, s + numM cells W k, by omega, by go_num, (hbr.trans (hb3.mono sr)).trans (hb4.mono (by omega)), by rw [Hid, hR.out, hst.out, if_neg H42.out]; omega⟩
        case measure => simp [intOf]; omega
    · obtain rfl : k = cells.length := by omega
      have hfin : s = sumOf l := by rw [hR.out]; simp [sumGo]
      go_wp2_with fail
      go_ret2
      exact ⟨by rw [← hfin]; rfl, hb0.trans (hbr.mono (by omega))⟩
end Go.Proofs.YtbaanmegkmlepabDoor
