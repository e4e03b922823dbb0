/- Walks: MirrorBoard by the program. -/
import Derived.Test.YtndmkbkmfonefabDoorU2
import Derived.Test.YtndmkbkmfonefabDoorT10
namespace Go.Proofs.YtndmkbkmfonefabDoor
open Go.RowKit

set_option maxRecDepth 100000 in
set_option maxHeartbeats 3200000 in
theorem iMirrorBoard_any (l : List UInt8) (w : World) (hM : HasMax w) (hl : l.length ≤ 1048576) :
    Calls Tryd.prog 20 #[.string ⟨l.toArray⟩] w fun e w' => e = .returned (.tuple #[.string ⟨(miM l).toArray⟩, .bool (boGoodM l)]) ∧ Below w.heap.size w w' := by
  have hgl := gCells_le l
  have hgs := gSize l
  have hgn := Lib.hid (gCells_len l)
  have hW8 := gW_le l
  have hH8 := gH_le l
  have HO : Hid (miM l = textM (permM (gCells l) (mirrD (gW l)) (gW l * gH l)) ((gW l)) ((gH l))) := rfl
  go_enter Tryd.func20, Tryd.ntmps20
  go_wp2_with fail
  refine (readBoard_any l _ hM hl).mono ?_
  rintro e w1 ⟨a, cap, rfl, hown, hb⟩
  have s1 := hb.size
  generalize gCells l = cells at *
  generalize gW l = W at *
  generalize gH l = H at *
  have hfree := fun w => freeGrid_any W H w hW8 hH8
  simp only [← hgn.out] at hfree
  go_wp2_with fail
  have hG1 : (w1.alloc (.cells #[.int .i64 W, .int .i64 H, .slice a cells.length cap, .bool false] 50)).heap[w1.heap.size]? = some (.cells #[.int .i64 W, .int .i64 H, .slice a cells.length cap, .bool false] 50 (0, 0)) := heap_alloc_new w1 _
  have hs0 : (w1.alloc (.cells #[.int .i64 W, .int .i64 H, .slice a cells.length cap, .bool false] 50)).heap.size = w1.heap.size + 1 := by simp
  have hb0 := hb.alloc s1 (.cells #[.int .i64 W, .int .i64 H, .slice a cells.length cap, .bool false] 50)
  have hat0 := (hown.later ((Below.refl _ w1).alloc (Nat.le_refl _) (.cells #[.int .i64 W, .int .i64 H, .slice a cells.length cap, .bool false] 50))).at
  generalize w1.alloc (.cells #[.int .i64 W, .int .i64 H, .slice a cells.length cap, .bool false] 50) = w0 at *
  refine (hfree _).mono ?_
  rintro e w2 ⟨a2, cap2, rfl, hown2, hb2⟩
  rw [hs0] at hown2 hb2
  have hcap2 := hown2.cap
  have hG2 := (hb2.block w1.heap.size (by omega)).trans hG1
  have hGlt := block_lt hG2
  have hf0 := cell_of_block hG2 0
  have hf1 := cell_of_block hG2 1
  have hf2 := cell_of_block hG2 2
  have hf3 := cell_of_block hG2 3
  simp at hf0 hf1 hf2 hf3
  have s2 := hb2.size
  have hat2 : At w2 a (byts cells) := hat0.later hs0.symm hb2
  have hb02 : Below w.heap.size w w2 := hb0.trans (hb2.mono (by omega))
  clear hown hb hG1 hfree hb0
  generalize w1.heap.size = s at *
  clear hb2
  go_wp2_with fail
  have hT3 : (w2.alloc (.cells #[.int .i64 W, .int .i64 H, .slice a2 cells.length cap2, .bool false] 50)).heap[w2.heap.size]? = some (.cells #[.int .i64 W, .int .i64 H, .slice a2 cells.length cap2, .bool false] 50 (0, 0)) := heap_alloc_new w2 _
  have hal := (Below.refl _ w2).alloc (Nat.le_refl _) (.cells #[.int .i64 W, .int .i64 H, .slice a2 cells.length cap2, .bool false] 50)
  have hs3 : (w2.alloc (.cells #[.int .i64 W, .int .i64 H, .slice a2 cells.length cap2, .bool false] 50)).heap.size = w2.heap.size + 1 := by simp
  have hown3 := hown2.later hal
  have hat3 : At (w2.alloc (.cells #[.int .i64 W, .int .i64 H, .slice a2 cells.length cap2, .bool false] 50)) a (byts cells) := hat2.later rfl hal
  have hG3 := (hal.block s hGlt).trans hG2
  have hb03 := hb02.trans (hal.mono hb02.size)
  have hlt2 := hown2.lt
  generalize w2.alloc (.cells #[.int .i64 W, .int .i64 H, .slice a2 cells.length cap2, .bool false] 50) = w3 at *
  generalize w2.heap.size = t at *
  have HG3 := Lib.hid hG3
  clear hG3 hG2 hf0 hf1 hf2 hf3 hown2 hat2 hb02 hal
  go_loopw [23] (fun i wr => ∃ k : Nat, k ≤ cells.length ∧ i = .int .i64 k ∧ Owns wr (s + 1) 5 (.slice a2 cells.length cap2) (byts (putsM cells (mirrD W) cells.length k)) ∧ Below (s + 1) w3 wr ∧ At wr a (byts cells) ∧ wr.heap[t]? = some (.cells #[.int .i64 W, .int .i64 H, .slice a2 cells.length cap2, .bool false] 50 (0, 0))) (fun i _ => cells.length - (intOf i).toNat)
  case atStart => exact ⟨0, Nat.zero_le _, rfl, hown3, Below.refl _ _, hat3, hT3⟩
  case round =>
    obtain ⟨k, hk, rfl, hownr, hbr, hatr, hTr⟩ := hrel
    have hGr := (hbr.block s (by omega)).trans HG3.out
    have hf0 := cell_of_block hGr 0
    have hf1 := cell_of_block hGr 1
    have hf2 := cell_of_block hGr 2
    have hf3 := cell_of_block hGr 3
    have ht0 := cell_of_block hTr 0
    have ht1 := cell_of_block hTr 1
    have ht2 := cell_of_block hTr 2
    have ht3 := cell_of_block hTr 3
    simp at hf0 hf1 hf2 hf3 ht0 ht1 ht2 ht3
    have hGlt := block_lt hGr
    have hTlt := block_lt hTr
    by_cases hlt : k < cells.length
    · obtain ⟨hW1, hH1⟩ : 1 ≤ W ∧ 1 ≤ H := by
        rcases hgs with ⟨rfl, _⟩ | h
        · have := hgn.out; simp at this; simp [this] at hlt
        · exact ⟨h.1.1, h.2.1⟩
      obtain ⟨g, rfl, hg1, hg2⟩ := hownr.zero (by simp; omega)
      have hgt := (hlt2 g rfl).2
      have hka := hatr
      obtain ⟨ba, oa, rfl, hca⟩ := byts_at hatr k hlt
      have hsp := fun w => spotOf_any (J := false) W H (some ⟨ba, oa, none⟩) cells.length cap k w hW1 (by omega)
      have hqH : k / W < H := by rw [Nat.div_lt_iff_lt_mul (by omega), Nat.mul_comm, ← hgn.out]; exact hlt
      have hrW : k % W < W := Nat.mod_lt _ (by omega)
      have hall := mirr_all W (by omega) H (by omega) k (by rw [← hgn.out]; exact hlt)
      have hdl : mirrD W k < cells.length := by rw [hgn.out]; exact hall.1
      have hdd : mirrD W k = (k / W) * W + (W - 1 - k % W) := rfl
      obtain ⟨d, hd⟩ : ∃ d, mirrD W k = d := ⟨_, rfl⟩
      rw [hd] at hdl hdd
      have hst : putsM cells (mirrD W) cells.length (k + 1) = (putsM cells (mirrD W) cells.length k).set d cells[k] := by
        rw [putsM, hd]; simp [List.getD, hlt]
      have HST := Lib.hid hst
      clear hst hall
      generalize k / W = q at *
      generalize k % W = r at *
      have hcl := fun w => cellAt_any (J := false) W H (some ⟨g, 0, none⟩) cells.length cap2 q (W - 1 - r) w hW8 (by omega) (by omega)
      rw [← hdd] at hcl
      have hcs : ((W - 1 - r : Nat) : Int) = IntKind.i64.wrap (IntKind.i64.wrap ((W : Int) - 1) - (r : Int)) := by rw [IntWalk.i64_in (_ - 1) ⟨by omega, by omega⟩, IntWalk.i64_in _ ⟨by omega, by omega⟩]; omega
      simp only [hcs] at hcl
      have HDD := Lib.hid hdd
      clear hdd hd hcs
      go_wp2_with fail
      refine (hsp _).mono ?_
      rintro e w4 ⟨rfl, hb4⟩
      have hown4 := hownr.later hb4
      have hG4 := (hb4.block s hGlt).trans hGr
      have hT4 := (hb4.block t hTlt).trans hTr
      have hat4 := hka.later rfl hb4
      have s4 := hb4.size
      have hbr4 := hbr.trans (hb4.mono (by omega))
      clear hownr hGr hTr hf0 hf1 hf2 hf3 ht0 ht1 ht2 ht3 hca hatr hka hbr hsp hb4
      go_wp2_with fail
      have hu0 := heap_alloc_new w4 (.cells #[.int .i64 q, .int .i64 r] 58)
      have hal5 := (Below.refl _ w4).alloc (Nat.le_refl _) (.cells #[.int .i64 q, .int .i64 r] 58)
      have hs5 : (w4.alloc (.cells #[.int .i64 q, .int .i64 r] 58)).heap.size = w4.heap.size + 1 := by simp
      have hown5 := hown4.later hal5
      have hG5 := (hal5.block s (by omega)).trans hG4
      have hT5 := (hal5.block t (by omega)).trans hT4
      have hat5 := hat4.later rfl hal5
      have hbr5 := hbr4.trans (hal5.mono (by omega))
      generalize w4.alloc (.cells #[.int .i64 q, .int .i64 r] 58) = w5 at *
      have hu5 : w5.heap[w4.heap.size]? = some (.cells #[.int .i64 q, .int .i64 r] 58 (0, 0)) := hu0
      have hgu : g ≠ w4.heap.size := by omega
      have hult : w4.heap.size < w5.heap.size := by omega
      generalize w4.heap.size = u at *
      clear hu0 hown4 hG4 hT4 hat4 hbr4 hal5
      have hX : ∀ w' : World, w'.heap[s]? = w5.heap[s]? → w'.heap[t]? = w5.heap[t]? → w'.heap[u]? = w5.heap[u]? → ∀ xs, Owns w' (s + 1) 5 (.slice (some ⟨g, 0, none⟩) cells.length cap2) (byts xs) → d < xs.length → w'.cell? ⟨t, 0, none⟩ = some (.int .i64 W) ∧ w'.cell? ⟨t, 1, none⟩ = some (.int .i64 H) ∧ w'.cell? ⟨t, 2, none⟩ = some (.slice (some ⟨g, 0, none⟩) cells.length cap2) ∧ w'.cell? ⟨t, 3, none⟩ = some (.bool false) ∧ w'.cell? ⟨u, 0, none⟩ = some (.int .i64 q) ∧ w'.cell? ⟨u, 1, none⟩ = some (.int .i64 r) ∧ w'.cell? ⟨s, 0, none⟩ = some (.int .i64 W) ∧ w'.cell? ⟨s, 1, none⟩ = some (.int .i64 H) ∧ w'.cell? ⟨s, 2, none⟩ = some (.slice (some ⟨ba, oa, none⟩) cells.length cap) ∧ w'.cell? ⟨s, 3, none⟩ = some (.bool false) ∧ w'.cell? ⟨g, d, none⟩ = some (cellOf w' g d) ∧ w'.frozen? ⟨g, d, none⟩ = false := by
        intro w' h1 h2 h3 xs ho hx
        have x1 := h1.trans hG5
        have x2 := h2.trans hT5
        have x3 := h3.trans hu5
        have c0 := cell_of_block x1 0
        have c1 := cell_of_block x1 1
        have c2 := cell_of_block x1 2
        have c3 := cell_of_block x2 0
        have c4 := cell_of_block x2 1
        have c5 := cell_of_block x2 2
        have c6 := cell_of_block x3 0
        have c7 := cell_of_block x3 1
        have c8 := cell_of_block x2 3
        have c9 := cell_of_block x1 3
        simp at c0 c1 c2 c3 c4 c5 c6 c7 c8 c9
        obtain ⟨g', o', he, hcell⟩ := byts_at ho.at d hx
        simp only [Option.some.injEq, Addr.mk.injEq, and_true] at he
        obtain ⟨rfl, rfl⟩ := he
        rw [Nat.zero_add] at hcell
        exact ⟨c3, c4, c5, c8, c6, c7, c0, c1, c2, c9, cellOf_some hcell, ho.froz d⟩
      have hA := fun (w' : World) (h : Below w5.heap.size w5 w') => hX w' (h.block s (by omega)) (h.block t (by omega)) (h.block u hult) _ (hown5.later h) (by simpa using hdl)
      have hS := fun (w' : World) (h : Below w5.heap.size w5 w') => hX (w'.setCell ⟨g, d, none⟩ (.int .u8 (cells[k].toNat : Int))) ((block_other (by omega) d _).trans (h.block s (by omega))) ((block_other (by omega) d _).trans (h.block t (by omega))) ((block_other (Ne.symm hgu) d _).trans (h.block u hult)) ((putsM cells (mirrD W) cells.length k).set d cells[k]) (by rw [← byts_set]; exact (hown5.later h).put d _) (by simpa using hdl)
      obtain ⟨b0, b1, b2, b3, b4, b5, b6, b7, b8, b9, b10, b11⟩ := hA w5 (Below.refl _ _)
      go_region_held3 (fun w' => w'.cell? ⟨t, 0, none⟩ = some (.int .i64 W) ∧ w'.cell? ⟨t, 1, none⟩ = some (.int .i64 H) ∧ w'.cell? ⟨t, 2, none⟩ = some (.slice (some ⟨g, 0, none⟩) cells.length cap2) ∧ w'.cell? ⟨t, 3, none⟩ = some (.bool false) ∧ w'.cell? ⟨u, 0, none⟩ = some (.int .i64 q) ∧ w'.cell? ⟨u, 1, none⟩ = some (.int .i64 r) ∧ w'.cell? ⟨s, 0, none⟩ = some (.int .i64 W) ∧ w'.cell? ⟨s, 1, none⟩ = some (.int .i64 H) ∧ w'.cell? ⟨s, 2, none⟩ = some (.slice (some ⟨ba, oa, none⟩) cells.length cap) ∧ w'.cell? ⟨s, 3, none⟩ = some (.bool false) ∧ w'.cell? ⟨g, d, none⟩ = some (cellOf w' g d) ∧ w'.frozen? ⟨g, d, none⟩ = false)
        (first | exact ⟨b0, b1, b2, b3, b4, b5, b6, b7, b8, b9, b10, b11⟩ | exact hA _ (ofDrew hb6) | exact hS _ (ofDrew hb6) | exact hA _ hb6 | exact hS _ hb6)
        ((go_at_call 54; refine (hcl _).mono ?_; rintro e w6 ⟨rfl, hb6⟩))
      have hb56 : Below w5.heap.size w5 w6 := ofDrew hb6
      have hownz := (hown5.later hb56).put d (.int .u8 (cells[k].toNat : Int))
      rw [byts_set, ← HST.out] at hownz
      have hTz := (block_other (w := w6) (by omega : t ≠ g) d (.int .u8 (cells[k].toNat : Int))).trans ((hb56.block t (by omega)).trans hT5)
      have hbz := (hbr5.trans (hb56.mono (by omega))).trans ((Below.set (w := w6) (g := g) d (.int .u8 (cells[k].toNat : Int))).mono hg1)
      clear hX hA hS b0 b1 b2 b3 b4 b5 b6 b7 b8 b9 b10 b11 hcl
      go_wp2_with fail
      go_roundw
      case rel => exact ⟨k + 1, by omega, by go_num, hownz, hbz, hat3.below hat0 (by omega) hbz, hTz⟩
      case measure => simp [intOf]; omega
    · obtain rfl : k = cells.length := by omega
      clear hlt hk
      have hm : putsM cells (mirrD W) cells.length cells.length = permM cells (mirrD W) (W * H) := by rw [hgn.out]; exact mirr_puts cells W H hW8 hH8
      rw [hm] at hownr
      have ht := text_any W H a2 (permM cells (mirrD W) (W * H)) cap2 wr hownr.at (by rw [permM_length, ← hgn.out]; exact hcap2) (by rw [permM_length]) (by exact hgs)
      rw [permM_length, ← hgn.out] at ht
      go_wp2_with fail
      refine ht.mono ?_
      rintro e w5 ⟨rfl, hb5⟩
      go_wp2_with fail
      go_ret2
      exact ⟨by rw [HO.out, ← hgn.out]; rfl, (hb03.trans (hbr.mono (by omega))).trans (hb5.mono (by have := hb03.size; have := hbr.size; omega))⟩
end Go.Proofs.YtndmkbkmfonefabDoor
