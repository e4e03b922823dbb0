/- Walks: the picture of a board, by the model and by the program. -/
import Derived.Test.YtbaanmegkmlepabDoorT9
import Derived.Test.YtbaanmegkmlepabDoorT8
namespace Go.Proofs.YtbaanmegkmlepabDoor
open Go.RowKit

theorem countAt_same (a b : List UInt8) (h : ∀ j, a.getD j 0 = 42 ↔ b.getD j 0 = 42) : ∀ l : List Nat, countAt a l = countAt b l
  | [] => rfl
  | o :: r => by
    unfold countAt
    rw [countAt_same a b h r]
    by_cases q : b.getD o 0 = 42
    · rw [if_pos q, if_pos ((h o).2 q)]
    · rw [if_neg q, if_neg (fun x => q ((h o).1 x))]
theorem pic42 (cells : List UInt8) (W H k : Nat) (hW : W ≤ 8) (hH : H ≤ 8) (hn : cells.length = W * H) (hk : k < cells.length) : picB cells W k = 42 ↔ cells.getD k 0 = 42 := by
  unfold picB
  by_cases q : cells.getD k 0 = 42
  · rw [if_pos q]; exact ⟨fun _ => q, fun _ => rfl⟩
  · rw [if_neg q]
    exact ⟨fun x => absurd x (digB_ne _ (numM_nine cells W H k hW hH hn hk)), fun x => absurd x q⟩
/-- The cells when those ahead of k are done. -/
def modM (cells : List UInt8) (W k : Nat) : List UInt8 := picGo cells W 0 k ++ cells.drop k
theorem modM_length (cells : List UInt8) (W k : Nat) (hk : k ≤ cells.length) : (modM cells W k).length = cells.length := by simp [modM]; omega
theorem modM_get (cells : List UInt8) (W k j : Nat) (hk : k ≤ cells.length) (hj : j < (modM cells W k).length) : (modM cells W k)[j] = if j < k then picB cells W j else cells.getD j 0 := by
  have hl := modM_length cells W k hk
  have e : (modM cells W k)[j]? = some (if j < k then picB cells W j else cells.getD j 0) := by
    unfold modM
    by_cases q : j < k
    · rw [if_pos q, List.getElem?_append_left (by simpa using q), List.getElem?_eq_getElem (by simpa using q), picGo_get, Nat.zero_add]
    · rw [if_neg q, List.getElem?_append_right (by simpa using q), List.getElem?_drop, picGo_length, show k + (j - k) = j by omega, List.getElem?_eq_getElem (by omega)]
      simp [List.getD, show j < cells.length by omega]
  obtain ⟨_, h⟩ := List.getElem?_eq_some_iff.1 e
  exact h
theorem modM_at (cells : List UInt8) (W k : Nat) (hk : k < cells.length) (hj : k < (modM cells W k).length) : (modM cells W k)[k] = cells[k] := by
  rw [modM_get cells W k k (by omega) hj, if_neg (by omega)]
  simp [List.getD, hk]
theorem modM_set (cells : List UInt8) (W k : Nat) (hk : k < cells.length) : (modM cells W k).set k (picB cells W k) = modM cells W (k + 1) := by
  unfold modM
  rw [List.drop_eq_getElem_cons hk, List.set_append_right _ _ (by simp), picGo_snoc]
  simp only [picGo_length, Nat.sub_self, List.set_cons_zero, Nat.zero_add, List.append_assoc, List.cons_append, List.nil_append]
theorem modM_same (cells : List UInt8) (W k : Nat) (hk : k < cells.length) (h : picB cells W k = cells[k]) : modM cells W (k + 1) = modM cells W k := by
  unfold modM
  rw [picGo_snoc, Nat.zero_add, h, List.drop_eq_getElem_cons hk]
  simp
theorem modM_num (cells : List UInt8) (W H k c : Nat) (hW : W ≤ 8) (hH : H ≤ 8) (hn : cells.length = W * H) (hk : k ≤ cells.length) : numM (modM cells W k) W c = numM cells W c := by
  unfold numM
  rw [modM_length cells W k hk]
  refine countAt_same _ _ (fun j => ?_) _
  have hl := modM_length cells W k hk
  by_cases q : j < cells.length
  · have e : (modM cells W k).getD j 0 = (modM cells W k)[j]'(by omega) := by simp [List.getD, hl, q]
    rw [e, modM_get cells W k j hk]
    by_cases p : j < k
    · rw [if_pos p]; exact pic42 cells W H j hW hH hn q
    · rw [if_neg p]
  · have e1 : (modM cells W k).getD j 0 = 0 := by simp [List.getD, hl, q]
    have e2 : cells.getD j 0 = 0 := by simp [List.getD, q]
    rw [e1, e2]

def piM (l : List UInt8) : List UInt8 := textM (picGo (gCells l) (gW l) 0 (gCells l).length) (gW l) (gH l)
theorem piM_none {l : List UInt8} (h : ¬ boGoodM l = true) : piM l = [] := by
  unfold piM gH
  rw [if_neg h]
  rfl

set_option maxRecDepth 100000 in
set_option maxHeartbeats 800000 in
theorem sPictureOf_any (l : List UInt8) (w : World) (hl : l.length ≤ 1048576) :
    Calls Tryd.prog 14 #[.string ⟨l.toArray⟩] w fun e w' => e = .returned (.tuple #[.string ⟨(piM l).toArray⟩, .bool (boGoodM l)]) ∧ Below w.heap.size w w' := by
  by_cases hg : boGoodM l = true
  · have hB := Brd.of hg
    generalize headLen (splitB 47 l) = W at *
    generalize (splitB 47 l).length = H at *
    obtain ⟨g1, g2, g3⟩ := hB.grid
    have HO := Lib.hid (show piM l = brGo W 0 (picGo (cellsM l) W 0 (cellsM l).length) by rw [piM, g1, g2, g3, brGo_text W H hB.w1 _ (by simpa using hB.len)])
    have HG := Lib.hid hg
    have HS := Lib.hid hB.size
    have HC := Lib.hid hB.cs
    have hn64 := hB.n64
    have hW1 := hB.w1
    have hW8 := hB.w8
    have hpi := fun w => boPicture_any W H (cellsM l) w ⟨hB.w1, hB.w8⟩ hB.h8 hB.len hB.sign
    clear g1 g2 g3 hB
    go_enter Tryd.func14, Tryd.ntmps14
    go_wp2_with fail
    refine (boGood_any l _ hl).mono ?_
    rintro e w1 ⟨rfl, hb1⟩
    go_wp2_with fail
    refine (boSize_any l _ hl).mono ?_
    rintro e w2 ⟨rfl, hb2⟩
    rw [HS.out]
    go_wp2_with fail
    refine (boCells_any l _ hl).mono ?_
    rintro e w2' ⟨rfl, rfl⟩
    generalize cellsM l = cells at *
    go_wp2_with fail
    refine (hpi _).mono ?_
    rintro e w3 ⟨rfl, hb3⟩
    go_wp2_with fail
    refine (boRows_any _ W _ (by simpa using hn64) hW1 (by omega)).mono ?_
    rintro e w3' ⟨rfl, rfl⟩
    go_wp2_with fail
    go_ret2
    have s1 := hb1.size
    have s2 := hb2.size
    exact ⟨by rw [HO.out, HG.out]; rfl, (hb1.trans (hb2.mono s1)).trans (hb3.mono (by omega))⟩
  · have HT := Lib.hid (piM_none hg)
    have hg' : boGoodM l = false := by simpa using hg
    clear hg
    go_enter Tryd.func14, Tryd.ntmps14
    go_wp2_with (go_at_call 42; refine (boGood_any l _ hl).mono ?_; rintro e w1 ⟨rfl, hb1⟩)
    go_ret2
    exact ⟨by rw [HT.out, hg']; rfl, hb1⟩

set_option maxRecDepth 100000 in
theorem digit_any (n : Nat) (w : World) (hn : n ≤ 9) :
    Calls Tryd.prog 49 #[.int .i64 n] w fun e w' => e = .returned (.int .u8 ((digB n).toNat : Int)) ∧ w = w' := by
  have hd := Lib.hid (digB_nat n hn)
  go_enter Tryd.func49, Tryd.ntmps49
  go_wp2_with fail
  go_ret
  exact ⟨by rw [hd.out]; simp, rfl⟩

/-- What lies in a cell. -/
def cellOf (w : World) (b o : Nat) : Value := (w.cell? ⟨b, o, none⟩).getD (.bool false)
theorem cellOf_some {w : World} {b o : Nat} {v : Value} (h : w.cell? ⟨b, o, none⟩ = some v) : w.cell? ⟨b, o, none⟩ = some (cellOf w b o) := by
  rw [cellOf, h]; rfl

set_option maxRecDepth 100000 in
set_option maxHeartbeats 1600000 in
theorem iPictureOf_any (l : List UInt8) (w : World) (hM : HasMax w) (hl : l.length ≤ 1048576) :
    Calls Tryd.prog 15 #[.string ⟨l.toArray⟩] w fun e w' => e = .returned (.tuple #[.string ⟨(piM l).toArray⟩, .bool (boGoodM l)]) ∧ Below w.heap.size w w' := by
  have hgl := gCells_le l
  have hgs := gSize l
  have hgn := Lib.hid (gCells_len l)
  have hW8 := gW_le l
  have hH8 := gH_le l
  have HO : Hid (piM l = textM (picGo (gCells l) (gW l) 0 (gCells l).length) (gW l) (gH l)) := rfl
  go_enter Tryd.func15, Tryd.ntmps15
  go_wp2_with fail
  refine (readBoard_any l _ hM hl).mono ?_
  rintro e w1 ⟨a, cap, rfl, hown, hb⟩
  have s1 := hb.size
  have hcap := hown.cap
  generalize gCells l = cells at *
  generalize gW l = W at *
  generalize gH l = H at *
  go_wp2_with fail
  have hG1 : (w1.alloc (.cells #[.int .i64 W, .int .i64 H, .slice a cells.length cap] 47)).heap[w1.heap.size]? = some (.cells #[.int .i64 W, .int .i64 H, .slice a cells.length cap] 47 (0, 0)) := heap_alloc_new w1 _
  have hs0 : (w1.alloc (.cells #[.int .i64 W, .int .i64 H, .slice a cells.length cap] 47)).heap.size = w1.heap.size + 1 := by simp
  have hb0 := hb.alloc s1 (.cells #[.int .i64 W, .int .i64 H, .slice a cells.length cap] 47)
  have hown0 := hown.later ((Below.refl _ w1).alloc (Nat.le_refl _) (.cells #[.int .i64 W, .int .i64 H, .slice a cells.length cap] 47))
  have hbk := hown.lt
  generalize w1.alloc (.cells #[.int .i64 W, .int .i64 H, .slice a cells.length cap] 47) = w0 at *
  have HG1 := Lib.hid hG1
  clear hG1
  go_loopw [15] (fun i wr => ∃ k : Nat, k ≤ cells.length ∧ i = .int .i64 k ∧ Owns wr w.heap.size 5 (.slice a cells.length cap) (byts (modM cells W k)) ∧ Below w.heap.size w wr ∧ wr.heap[w1.heap.size]? = some (.cells #[.int .i64 W, .int .i64 H, .slice a cells.length cap] 47 (0, 0))) (fun i _ => cells.length - (intOf i).toNat)
  case atStart => exact ⟨0, Nat.zero_le _, rfl, by simpa [modM, picGo] using hown0, hb0, HG1.out⟩
  case round =>
    obtain ⟨k, hk, rfl, hownr, hbr, hGr⟩ := hrel
    have hf0 := cell_of_block hGr 0
    have hf1 := cell_of_block hGr 1
    have hf2 := cell_of_block hGr 2
    simp at hf0 hf1 hf2
    have hGlt := block_lt hGr
    by_cases hlt : k < cells.length
    · have hlen := modM_length cells W k hk
      have hW1 : 1 ≤ W := by
        rcases hgs with ⟨rfl, _⟩ | h
        · have := hgn.out; simp at this; simp [this] at hlt
        · exact h.1.1
      have h9 := numM_nine cells W H k hW8 hH8 hgn.out hlt
      have hgd : cells.getD k 0 = cells[k] := by simp [List.getD, hlt]
      obtain ⟨g, rfl, hg1, hg2⟩ := hownr.zero (by simp; omega)
      have hatr := hownr.at
      have hmine := fun w h => isMine_any W H (some ⟨g, 0, none⟩) (modM cells W k) cap k w h (by omega) (by omega)
      have hnum := fun w h => number_any W H (some ⟨g, 0, none⟩) (modM cells W k) cap k w h hW1 (by omega) (by omega)
      simp only [hlen, modM_num cells W H k k hW8 hH8 hgn.out hk, modM_at cells W k hlt] at hmine hnum
      have hgG : w1.heap.size ≠ g := by have := (hbk g rfl).2; omega
      by_cases h42 : cells[k] = 42
      · have hd : ((cells[k].toNat : Int) == 42) = true := by rw [is42]; simp [h42]
        have hsame := Lib.hid (modM_same cells W k hlt (by rw [picB, if_pos (by rw [hgd]; exact h42)]; exact h42.symm))
        clear h42 hgd
        go_wp2_with fail
        refine (hmine _ hatr).mono ?_
        rintro e w3 ⟨rfl, hb3⟩
        go_wp2_with fail
        go_roundw
        case rel => exact ⟨k + 1, by omega, by go_num, by rw [hsame.out]; exact hownr.later hb3, hbr.trans (hb3.mono hbr.size), (hb3.block _ hGlt).trans hGr⟩
        case measure => simp [intOf]; omega
      · have hd : ((cells[k].toNat : Int) == 42) = false := by rw [is42]; simp [h42]
        have hset := modM_set cells W k hlt
        rw [picB, if_neg (by rw [hgd]; exact h42)] at hset
        have HSet := Lib.hid hset
        clear h42 hgd hset
        go_wp2_with fail
        refine (hmine _ hatr).mono ?_
        rintro e w3 ⟨rfl, hb3⟩
        have hown3 := hownr.later hb3
        have hG3 := (hb3.block _ hGlt).trans hGr
        have hb03 := hbr.trans (hb3.mono hbr.size)
        have hs3 := hb3.size
        have hg3 : g < w3.heap.size := by omega
        have hGlt3 : w1.heap.size < w3.heap.size := by omega
        clear hownr hbr hGr hf0 hf1 hf2 hmine hatr hb3 hg2 hGlt
        have hGx : ∀ w' : World, w'.heap[w1.heap.size]? = w3.heap[w1.heap.size]? → w'.cell? ⟨w1.heap.size, 0, none⟩ = some (.int .i64 W) ∧ w'.cell? ⟨w1.heap.size, 1, none⟩ = some (.int .i64 H) ∧ w'.cell? ⟨w1.heap.size, 2, none⟩ = some (.slice (some ⟨g, 0, none⟩) cells.length cap) := by
          intro w' h
          have hG := h.trans hG3
          have q0 := cell_of_block hG 0
          have q1 := cell_of_block hG 1
          have q2 := cell_of_block hG 2
          simp at q0 q1 q2
          exact ⟨q0, q1, q2⟩
        have hOx : ∀ (w' : World) xs, Owns w' w.heap.size 5 (.slice (some ⟨g, 0, none⟩) cells.length cap) (byts xs) → k < xs.length → w'.cell? ⟨g, k, none⟩ = some (cellOf w' g k) ∧ w'.frozen? ⟨g, k, none⟩ = false := by
          intro w' xs ho hx
          obtain ⟨g', o', he, hcell⟩ := byts_at ho.at k hx
          simp only [Option.some.injEq, Addr.mk.injEq, and_true] at he
          obtain ⟨rfl, rfl⟩ := he
          rw [Nat.zero_add] at hcell
          exact ⟨cellOf_some hcell, ho.froz k⟩
        have hA : ∀ w' : World, Below w3.heap.size w3 w' → w'.cell? ⟨w1.heap.size, 0, none⟩ = some (.int .i64 W) ∧ w'.cell? ⟨w1.heap.size, 1, none⟩ = some (.int .i64 H) ∧ w'.cell? ⟨w1.heap.size, 2, none⟩ = some (.slice (some ⟨g, 0, none⟩) cells.length cap) ∧ w'.cell? ⟨g, k, none⟩ = some (cellOf w' g k) ∧ w'.frozen? ⟨g, k, none⟩ = false := by
          intro w' h
          obtain ⟨a0, a1, a2⟩ := hGx w' (h.block _ hGlt3)
          obtain ⟨a3, a4⟩ := hOx w' _ (hown3.later h) (by omega)
          exact ⟨a0, a1, a2, a3, a4⟩
        have hS : ∀ (w' : World) (v : Nat), Below w3.heap.size w3 w' → (w'.setCell ⟨g, k, none⟩ (.int .u8 ((digB v).toNat : Int))).cell? ⟨w1.heap.size, 0, none⟩ = some (.int .i64 W) ∧ (w'.setCell ⟨g, k, none⟩ (.int .u8 ((digB v).toNat : Int))).cell? ⟨w1.heap.size, 1, none⟩ = some (.int .i64 H) ∧ (w'.setCell ⟨g, k, none⟩ (.int .u8 ((digB v).toNat : Int))).cell? ⟨w1.heap.size, 2, none⟩ = some (.slice (some ⟨g, 0, none⟩) cells.length cap) ∧ (w'.setCell ⟨g, k, none⟩ (.int .u8 ((digB v).toNat : Int))).cell? ⟨g, k, none⟩ = some (cellOf (w'.setCell ⟨g, k, none⟩ (.int .u8 ((digB v).toNat : Int))) g k) ∧ (w'.setCell ⟨g, k, none⟩ (.int .u8 ((digB v).toNat : Int))).frozen? ⟨g, k, none⟩ = false := by
          intro w' v h
          obtain ⟨a0, a1, a2⟩ := hGx (w'.setCell ⟨g, k, none⟩ (.int .u8 ((digB v).toNat : Int))) ((block_other hgG k _).trans (h.block _ hGlt3))
          have ho := (hown3.later h).put k (.int .u8 ((digB v).toNat : Int))
          rw [byts_set] at ho
          obtain ⟨a3, a4⟩ := hOx _ _ ho (by simp; omega)
          exact ⟨a0, a1, a2, a3, a4⟩
        obtain ⟨b0, b1, b2, b3, b4⟩ := hA w3 (Below.refl _ _)
        have hat3 := hown3.at
        go_wp2_with fail
        go_region_held3 (fun w' => w'.cell? ⟨w1.heap.size, 0, none⟩ = some (.int .i64 W) ∧ w'.cell? ⟨w1.heap.size, 1, none⟩ = some (.int .i64 H) ∧ w'.cell? ⟨w1.heap.size, 2, none⟩ = some (.slice (some ⟨g, 0, none⟩) cells.length cap) ∧ w'.cell? ⟨g, k, none⟩ = some (cellOf w' g k) ∧ w'.frozen? ⟨g, k, none⟩ = false)
          (first | exact ⟨b0, b1, b2, b3, b4⟩ | exact hA _ (ofDrew hb4) | exact hS _ _ (ofDrew hb4) | exact hA _ hb4 | exact hS _ _ hb4)
          ((first | (go_at_call 50; refine (hnum _ (by first | exact hat3 | exact hat3.drew)).mono ?_; rintro e w4 ⟨rfl, hb4⟩) | (go_at_call 49; refine (digit_any _ _ h9).mono ?_; rintro e w5 ⟨rfl, rfl⟩)))
        have hb34 : Below w3.heap.size w3 w4 := ofDrew hb4
        have hown4 := (hown3.later hb34).put k (.int .u8 ((digB (numM cells W k)).toNat : Int))
        rw [byts_set, HSet.out] at hown4
        have hG4 := (block_other hgG k (.int .u8 ((digB (numM cells W k)).toNat : Int))).trans ((hb34.block _ hGlt3).trans hG3)
        have hb04 := (hb03.trans (hb34.mono hb03.size)).trans ((Below.set (w := w4) (g := g) k (.int .u8 ((digB (numM cells W k)).toNat : Int))).mono hg1)
        clear hGx hOx hA hS b0 b1 b2 b3 b4 hnum
        go_wp2_with fail
        go_roundw
        case rel => exact ⟨k + 1, by omega, by go_num, hown4, hb04, hG4⟩
        case measure => simp [intOf]; omega
    · obtain rfl : k = cells.length := by omega
      clear hlt hk
      have hm : modM cells W cells.length = picGo cells W 0 cells.length := by simp [modM]
      rw [hm] at hownr
      have ht := text_any W H a (picGo cells W 0 cells.length) cap wr hownr.at (by simpa using hcap) (by simpa using hgn.out) hgs
      simp only [picGo_length] at ht
      go_wp2_with fail
      refine ht.mono ?_
      rintro e w5 ⟨rfl, hb5⟩
      go_wp2_with fail
      go_ret2
      exact ⟨by rw [HO.out]; rfl, hbr.trans (hb5.mono hbr.size)⟩
end Go.Proofs.YtbaanmegkmlepabDoor
