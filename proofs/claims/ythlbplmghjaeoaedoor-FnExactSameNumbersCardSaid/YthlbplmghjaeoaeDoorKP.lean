/- SameNumbers by the program. -/
import Derived.Test.YthlbplmghjaeoaeDoorKO
import Derived.Test.YthlbplmghjaeoaeDoorKQ
import Derived.Test.YthlbplmghjaeoaeDoorKG
import Derived.Test.YthlbplmghjaeoaeDoorJ7
import Derived.Test.YthlbplmghjaeoaeDoorKR
import Derived.Test.YthlbplmghjaeoaeDoorI4
import Derived.Test.YthlbplmghjaeoaeDoorK1
import Derived.Outline
namespace Go.Proofs.YthlbplmghjaeoaeDoor
open Go.RowKit

theorem snM_len (l : List UInt8) : (snM l).length ≤ 1048576 := by
  unfold snM
  split
  · rename_i h
    unfold fwB at h
    rw [Bool.and_eq_true] at h
    have h1 := snL_le (cellsM l) (headLen (splitB 47 l)) (splitB 47 l).length (allM (cellsM l).length (-1)).length
    have h2 := allM_le (cellsM l).length (-1) (of_decide_eq_true h.2)
    omega
  · simp
theorem sn_small (l : List UInt8) : szB (gW l) (gH l) 12 = fwB l := by
  unfold fwB
  cases hg : boGoodM l with
  | false =>
    have : gW l = 0 := by unfold gW; rw [hg]; rfl
    rw [this]; rfl
  | true =>
    have B := Brd.of hg
    obtain ⟨e1, e2, e3⟩ := B.grid
    rw [e1, e2, B.len, Bool.true_and]
    have h1 : inB ((headLen (splitB 47 l) : Nat) : Int) 1 8 = true := inB_iff.2 ⟨by have := B.w1; omega, by have := B.w8; omega⟩
    have h2 : inB (((splitB 47 l).length : Nat) : Int) 1 8 = true := inB_iff.2 ⟨by have := B.h1; omega, by have := B.h8; omega⟩
    rw [szB, h1, h2, Bool.true_and, Bool.true_and, decide_eq_decide, ← Int.natCast_mul]
    omega

theorem numW_out (W n : Nat) (u : List UInt8) (i : Nat) (hi : n ≤ i) : numW W n u i = 0 := by
  unfold numW
  rw [sumW_congr (g := fun _ => 0) u 0 fun j _ _ => ?_, sumW_zero]
  exact List.count_eq_zero.2 fun h => by have := nearM_lt W n j i h; omega
theorem numM_8 (W H : Nat) (hW : W ≤ 8) (hH : H ≤ 8) (h12 : W * H ≤ 12) (c : List UInt8) (hn : c.length = W * H) (i : Nat) (hi : i < W * H) : numM c W i ≤ 8 := by
  have := (near12_all W (by omega) H (by omega) h12 i hi).2
  unfold numM
  rw [hn]
  exact Nat.le_trans (countAt_le _ _) this
theorem eqN_snB (W H : Nat) (hW : W ≤ 8) (hH : H ≤ 8) (h12 : W * H ≤ 12) (c d : List UInt8) (hc : c.length = W * H) (hd : d.length = W * H) : (preB W (W * H) c).eqN (preB W (W * H) d) = snB W (nmT d W) c := by
  rw [Bool.eq_iff_iff]
  unfold LB.eqN snB
  rw [List.all_eq_true, decide_eq_true_eq]
  constructor
  · intro h
    refine List.ext_getElem (by rw [nmT_length, nmT_length, hc, hd]) fun i h1 h2 => ?_
    have hi : i < W * H := by rw [nmT_length, hc] at h1; exact h1
    have e := h i (List.mem_range.2 (by omega))
    rw [pre_numM W H hW hH h12 c hc i hi, pre_numM W H hW hH h12 d hd i hi] at e
    have e' : numM c W i = numM d W i := by
      have e2 : ((numM c W i : Nat) : Int) = ((numM d W i : Nat) : Int) := by simpa using e
      omega
    simp [nmT, e']
  · intro h i hi
    have hi := List.mem_range.1 hi
    by_cases q : i < W * H
    · rw [pre_numM W H hW hH h12 c hc i q, pre_numM W H hW hH h12 d hd i q]
      have e : (nmT c W)[i]'(by rw [nmT_length, hc]; exact q) = (nmT d W)[i]'(by rw [nmT_length, hd]; exact q) := by simp only [h]
      simp only [nmT, List.getElem_map, List.getElem_range] at e
      have e2 := congrArg UInt8.toNat e
      rw [digB_nat _ (by have := numM_8 W H hW hH h12 c hc i q; omega), digB_nat _ (by have := numM_8 W H hW hH h12 d hd i q; omega)] at e2
      have : numM c W i = numM d W i := by omega
      simp [this]
    · rw [pre_num _ _ _ _ hi, pre_num _ _ _ _ hi, numW_out _ _ _ _ (by omega), numW_out _ _ _ _ (by omega)]
      simp
theorem pre_take (W n : Nat) (c : List UInt8) (hc : c.length = n) (hn : n ≤ 12) : (preB W n c).1.take n = c := by
  show (preP W n c).take n = c
  refine List.ext_getElem (by rw [List.length_take, preP_length]; omega) fun k k1 k2 => ?_
  have hk : k < 12 := by omega
  have e1 := preP_sign W n c k hk
  rw [List.getElem_take]
  have l1 : k < (preP W n c).length := by rw [preP_length]; omega
  simpa [List.getD, l1, k2] using e1
theorem sn_list (W H : Nat) (hW : 1 ≤ W ∧ W ≤ 8) (hH : 1 ≤ H ∧ H ≤ 8) (h12 : W * H ≤ 12) (cells : List UInt8) (hn : cells.length = W * H) :
    ((listGo W (W * H) (W * H)).filter fun x => x.eqN (preB W (W * H) cells)).map (fun x => textM (x.1.take (W * H)) W H) = snL cells W H (allM cells.length (-1)).length := by
  unfold snL
  rw [List.take_length, hn, listGo_all W (W * H) h12, List.filter_map, List.map_map]
  have e : (allM (W * H) (-1)).filter ((fun x : LB => x.eqN (preB W (W * H) cells)) ∘ preB W (W * H)) = (allM (W * H) (-1)).filter (snB W (nmT cells W)) :=
    List.filter_congr fun c hc => eqN_snB W H hW.2 hH.2 h12 c cells (allM_len hc) hn
  rw [e]
  refine List.map_congr_left fun c hc => ?_
  have hc := (List.mem_filter.1 hc).1
  simp only [Function.comp]
  rw [pre_take W (W * H) c (allM_len hc) h12]

theorem field24 (y : LB) (w : World) : (Instr.field 41 (.agg (encB y).toArray) 1).run Tryd.prog w = .ok (.agg (nmA y)) w := by
  have e : (List.take 12 (List.drop 12 (encB y))).toArray = nmA y := by
    rw [List.take_of_length_le (by rw [List.length_drop, encB_len]; decide)]
    unfold nmA encB byts
    rw [List.map_drop]
  simp [Instr.field, run_underlying Tryd.underlying41, part, Tryd.isAgg39, Tryd.sizeOf39, asAgg, e]

set_option maxRecDepth 100000 in
set_option maxHeartbeats 3200000 in
theorem iSameNumbers_any (l : List UInt8) (w : World) (hM : HasMax w) (hl : l.length ≤ 1048576) :
    Calls Tryd.prog 5 #[.string ⟨l.toArray⟩] w fun e w' => ∃ a cap, e = .returned (.tuple #[.slice a (snM l).length cap, .bool (fwB l)]) ∧ Owns w' w.heap.size 9 (.slice a (snM l).length cap) (txts (snM l)) ∧ Below w.heap.size w w' := by
  have h0 := readBoard_any l w hM hl
  have h1 := fun wr => isSmall_any (gW l) (gH l) wr
  rw [sn_small] at h1
  cases hf : fwB l with
  | false =>
    rw [hf] at h1
    have HM : Hid (snM l = []) := by rw [Hid, snM, hf]; rfl
    have H0 := Lib.hid h0
    have H1 := Lib.hid h1
    clear hf h1 h0
    go_enter Tryd.func5, Tryd.ntmps5
    go_wp2_with fail
    refine H0.out.mono ?_
    rintro e w1 ⟨a, cap, rfl, hown, hb⟩
    clear hown
    go_wp2_with fail
    refine (H1.out _).mono ?_
    rintro e w2 ⟨rfl, rfl⟩
    go_wp2_with fail
    go_ret2
    exact ⟨none, 0, by rw [HM.out]; rfl, by rw [HM.out]; exact Owns.nil _ _ _, hb.alloc hb.size _⟩
  | true =>
    have hg : boGoodM l = true := by unfold fwB at hf; rw [Bool.and_eq_true] at hf; exact hf.1
    have B := Brd.of hg
    obtain ⟨e1, e2, e3⟩ := B.grid
    have h12 : headLen (splitB 47 l) * (splitB 47 l).length ≤ 12 := by
      unfold fwB at hf; rw [Bool.and_eq_true, B.len] at hf; exact of_decide_eq_true hf.2
    have hM2 : snM l = snL (cellsM l) (headLen (splitB 47 l)) (splitB 47 l).length (allM (cellsM l).length (-1)).length := by rw [snM, if_pos hf]
    have ww1 := B.w1; have w8 := B.w8; have g1 := B.h1; have g8 := B.h8; have hn := B.len; have hbd : Brd2 (cellsM l) := fun c hc => B.sign c hc
    rw [e1, e2, e3, hg] at h0
    rw [e1, e2, hf] at h1
    generalize headLen (splitB 47 l) = W at *
    generalize (splitB 47 l).length = H at *
    generalize cellsM l = cells at *
    have HLO := Lib.hid (fun a cap w hat => listedOf_any W H a cells cap w hat hn ⟨ww1, w8⟩ ⟨g1, g8⟩ h12)
    have HLB := Lib.hid (listBoards_any W H ⟨ww1, w8⟩ ⟨g1, g8⟩ h12)
    have hfd2 : ∀ (y : LB) (w : World), (Instr.field 41 (.agg (encB y).toArray) 1).run Tryd.prog w = .ok (.agg (numL y).toArray) w := field24
    have hlen : (listGo W (W * H) (W * H)).length ≤ 4096 := by rw [listGo_length W _ _ h12]; exact Nat.pow_le_pow_right (by decide) h12
    generalize hLL : listGo W (W * H) (W * H) = L at *
    have HLG := Lib.hid hLL
    generalize hyy : preB W (W * H) cells = y0 at *
    have HYY := Lib.hid hyy
    clear hLL hyy
    have HTX := Lib.hid (fun x w => lbText_any x W H (x.1.take (W * H)) rfl ⟨ww1, w8⟩ ⟨g1, g8⟩ h12 w)
    have H0 := Lib.hid h0
    have H1 := Lib.hid h1
    have HM2 := Lib.hid hM2
    have HNN := Lib.hid hn
    have H12 := Lib.hid h12
    have HLL := Lib.hid hlen
    clear hf h1 h0 hM2 B e1 e2 e3 hn h12 hlen
    go_enter Tryd.func5, Tryd.ntmps5
    go_wp2_with fail
    refine H0.out.mono ?_
    rintro e w1 ⟨a, cap, rfl, hown, hb⟩
    have hat := hown.at
    go_wp2_with fail
    refine (H1.out _).mono ?_
    rintro e w2 ⟨rfl, rfl⟩
    go_wp2_with fail
    refine (HLO.out _ _ _ (hat.later rfl ((Below.refl _ _).alloc (Nat.le_refl _) _))).mono ?_
    rintro e w3 ⟨rfl, hb3⟩
    dsimp only
    go_step
    go_step
    go_step
    go_step
    go_step
    go_step
    go_step
    have hA4 : (w3.alloc (.cells #[.int .u8 0, .int .u8 0, .int .u8 0, .int .u8 0, .int .u8 0, .int .u8 0, .int .u8 0, .int .u8 0, .int .u8 0, .int .u8 0, .int .u8 0, .int .u8 0] 39)).heap[w3.heap.size]? = some (.cells #[.int .u8 0, .int .u8 0, .int .u8 0, .int .u8 0, .int .u8 0, .int .u8 0, .int .u8 0, .int .u8 0, .int .u8 0, .int .u8 0, .int .u8 0, .int .u8 0] 39 (0, 0)) := heap_alloc_new w3 _
    have hG3 : w3.heap[w1.heap.size]? = some (.cells #[.int .i64 W, .int .i64 H, .slice a cells.length cap, .bool false] 35 (0, 0)) := (hb3.block _ (by simp)).trans (heap_alloc_new w1 _)
    have hGl : w1.heap.size < w3.heap.size := block_lt hG3
    refine wpList_store_mid rfl 39 _ _ rfl w3.heap.size 0 (numL y0).toArray rfl rfl (by rw [numL_size]; exact there12 hA4 rfl) (inf65.trans (by rw [numL_size])) (all_oneCell_toArray (numL_one y0)) ?_
    refine wpList_nil ?_
    have hR5 := World.rangeAt_setCells_same (w3.alloc (.cells #[.int .u8 0, .int .u8 0, .int .u8 0, .int .u8 0, .int .u8 0, .int .u8 0, .int .u8 0, .int .u8 0, .int .u8 0, .int .u8 0, .int .u8 0, .int .u8 0] 39)) w3.heap.size 0 (numL y0) (by rw [numL_len]; exact there12 hA4 rfl)
    have hG5 : Hid (((w3.alloc (.cells #[.int .u8 0, .int .u8 0, .int .u8 0, .int .u8 0, .int .u8 0, .int .u8 0, .int .u8 0, .int .u8 0, .int .u8 0, .int .u8 0, .int .u8 0, .int .u8 0] 39)).setCells w3.heap.size 0 (numL y0)).heap[w1.heap.size]? = some (.cells #[.int .i64 W, .int .i64 H, .slice a cells.length cap, .bool false] 35 (0, 0))) := by
      rw [Hid, heap_setCells (by omega), Below.heap_alloc _ _ _ hGl]; exact hG3
    have hbA := hb.alloc hb.size (.cells #[.int .i64 W, .int .i64 H, .slice a cells.length cap, .bool false] 35)
    have hbB := hbA.trans (hb3.mono hbA.size)
    have hb5 : Below w.heap.size w ((w3.alloc (.cells #[.int .u8 0, .int .u8 0, .int .u8 0, .int .u8 0, .int .u8 0, .int .u8 0, .int .u8 0, .int .u8 0, .int .u8 0, .int .u8 0, .int .u8 0, .int .u8 0] 39)).setCells w3.heap.size 0 (numL y0)) := below_setCells _ 0 (hbB.alloc hbB.size _) hbB.size
    have hNl := World.block_lt_of_cell? _ _ (hR5 0 _ (List.getElem?_eq_getElem (by rw [numL_len]; decide)))
    simp only at hNl
    clear hA4 hG3 hbA hbB hat hown hb hb3
    generalize (w3.alloc (.cells #[.int .u8 0, .int .u8 0, .int .u8 0, .int .u8 0, .int .u8 0, .int .u8 0, .int .u8 0, .int .u8 0, .int .u8 0, .int .u8 0, .int .u8 0, .int .u8 0] 39)).setCells w3.heap.size 0 (numL y0) = w5 at *
    generalize w1.heap.size = G0 at *
    generalize w3.heap.size = NB at *
    have hf0 := cell_of_block hG5.out 0
    have hf1 := cell_of_block hG5.out 1
    simp at hf0 hf1
    go_wp2_with fail
    refine (HLB.out _).mono ?_
    rintro e w4 ⟨v, rfl, hO, hb4⟩
    obtain ⟨ab, capb, hv⟩ := hO.shape
    subst hv
    have hR4 := range_later hR5 hb4
    have hG4 : Hid (w4.heap[G0]? = some (.cells #[.int .i64 W, .int .i64 H, .slice a cells.length cap, .bool false] 35 (0, 0))) := (hb4.block G0 (block_lt hG5.out)).trans hG5.out
    have hb04 : Below w.heap.size w w4 := hb5.trans (hb4.mono hb5.size)
    have hs45 := hb4.size
    clear hR5 hG5 hb5 hb4 hf0 hf1
    go_wp2_with fail
    obtain ⟨F, hF⟩ : ∃ F : Nat → List (List UInt8), F = fun k => ((L.take k).filter fun x => x.eqN y0).map fun x => textM (x.1.take (W * H)) W H := ⟨_, rfl⟩
    have hF0 : F 0 = [] := by rw [hF]; rfl
    have hFl : ∀ k, (F k).length ≤ k := fun k => by
      rw [hF, List.length_map]
      exact Nat.le_trans (List.length_filter_le _ _) (by rw [List.length_take]; omega)
    have HFS : Hid (∀ k (hk : k < L.length), F (k + 1) = F k ++ if L[k].eqN y0 = true then [textM (L[k].1.take (W * H)) W H] else []) := fun k hk => by
      rw [hF]
      simp only
      rw [List.take_succ_eq_append_getElem hk, List.filter_append, List.map_append]
      by_cases q : L[k].eqN y0 = true <;> simp [q]
    have HFF := Lib.hid hF
    clear hF
    go_loopw [7, 30] (fun v i wr => ∃ k : Nat, k ≤ L.length ∧ i = .int .i64 k ∧ Owns wr w4.heap.size 9 v (txts (F k)) ∧ Below w4.heap.size w4 wr) (fun _ i _ => L.length - (intOf i).toNat)
    case atStart => exact ⟨0, Nat.zero_le _, rfl, by rw [hF0]; exact Owns.nil _ _ _, Below.refl _ _⟩
    case round =>
      obtain ⟨k, hk, rfl, hown, hbr⟩ := hrel
      by_cases hlt : k < L.length
      · obtain ⟨g, cb, cur, hv, hg1, hg2, hgb, hgc, hgs, hgr⟩ := (hO.later hbr).open (by omega)
        obtain ⟨rfl, _, rfl⟩ : ab = some ⟨g, 0, none⟩ ∧ L.length = L.length ∧ capb = cb := by simpa using hv
        have hrj := hgr k hlt
        have hfs := HFS.out k hlt
        have hfl := hFl k
        generalize L[k] = x at *
        have heq := eqNumL x y0
        have hL4 := HLL.out
        cases q : x.eqN y0 with
        | true =>
          rw [q] at heq hfs
          have HE : Hid (txts (F (k + 1)) = txts (F k) ++ [.string ⟨(textM (x.1.take (W * H)) W H).toArray⟩]) := by rw [Hid, hfs, if_pos rfl]; simp [txts]
          clear hfs
          go_upto_region 8 with fail
          refine wp_region_lit ?_
          go_step
          go_step
          go_step
          refine wpList_load_mid rfl 41 _ rfl g (k * 24) rfl (encB x) _ hrj Tryd.underlying41 rfl (inf67.trans (by rw [encB_len])) ?_
          go_step
          go_step
          go_step
          have hA5 : (wr.alloc (.cells #[.int .u8 0, .int .u8 0, .int .u8 0, .int .u8 0, .int .u8 0, .int .u8 0, .int .u8 0, .int .u8 0, .int .u8 0, .int .u8 0, .int .u8 0, .int .u8 0, .int .u8 0, .int .u8 0, .int .u8 0, .int .u8 0, .int .u8 0, .int .u8 0, .int .u8 0, .int .u8 0, .int .u8 0, .int .u8 0, .int .u8 0, .int .u8 0] 41)).heap[wr.heap.size]? = some (.cells #[.int .u8 0, .int .u8 0, .int .u8 0, .int .u8 0, .int .u8 0, .int .u8 0, .int .u8 0, .int .u8 0, .int .u8 0, .int .u8 0, .int .u8 0, .int .u8 0, .int .u8 0, .int .u8 0, .int .u8 0, .int .u8 0, .int .u8 0, .int .u8 0, .int .u8 0, .int .u8 0, .int .u8 0, .int .u8 0, .int .u8 0, .int .u8 0] 41 (0, 0)) := heap_alloc_new wr _
          have hb5 : Below wr.heap.size wr ((wr.alloc (.cells #[.int .u8 0, .int .u8 0, .int .u8 0, .int .u8 0, .int .u8 0, .int .u8 0, .int .u8 0, .int .u8 0, .int .u8 0, .int .u8 0, .int .u8 0, .int .u8 0, .int .u8 0, .int .u8 0, .int .u8 0, .int .u8 0, .int .u8 0, .int .u8 0, .int .u8 0, .int .u8 0, .int .u8 0, .int .u8 0, .int .u8 0, .int .u8 0] 41)).setCells wr.heap.size 0 (encB x)) := below_setCells (encB x) 0 ((Below.refl _ _).alloc (Nat.le_refl _) _) (Nat.le_refl _)
          have hR5 := World.rangeAt_setCells_same (wr.alloc (.cells #[.int .u8 0, .int .u8 0, .int .u8 0, .int .u8 0, .int .u8 0, .int .u8 0, .int .u8 0, .int .u8 0, .int .u8 0, .int .u8 0, .int .u8 0, .int .u8 0, .int .u8 0, .int .u8 0, .int .u8 0, .int .u8 0, .int .u8 0, .int .u8 0, .int .u8 0, .int .u8 0, .int .u8 0, .int .u8 0, .int .u8 0, .int .u8 0] 41)) wr.heap.size 0 (encB x) (by rw [encB_len]; exact there24 hA5 rfl)
          refine wpList_store_mid rfl 41 _ _ rfl wr.heap.size 0 (encB x).toArray rfl rfl (by rw [encB_size]; exact there24 hA5 rfl) (inf67.trans (by rw [encB_size])) (all_oneCell_toArray (encB_one x)) ?_
          refine wpList_nil ?_
          clear hA5
          generalize (wr.alloc (.cells #[.int .u8 0, .int .u8 0, .int .u8 0, .int .u8 0, .int .u8 0, .int .u8 0, .int .u8 0, .int .u8 0, .int .u8 0, .int .u8 0, .int .u8 0, .int .u8 0, .int .u8 0, .int .u8 0, .int .u8 0, .int .u8 0, .int .u8 0, .int .u8 0, .int .u8 0, .int .u8 0, .int .u8 0, .int .u8 0, .int .u8 0, .int .u8 0] 41)).setCells wr.heap.size 0 (encB x) = w6 at *
          have hown6 := hown.later hb5
          have hb06 : Below w4.heap.size w4 w6 := hbr.trans (hb5.mono hbr.size)
          have hN6 := range_later hR4 (w' := w6) hb06
          have hG6 : Hid (w6.heap[G0]? = some (.cells #[.int .i64 W, .int .i64 H, .slice a cells.length cap, .bool false] 35 (0, 0))) := (hb06.block G0 (block_lt hG4.out)).trans hG4.out
          have hX6 := range_nums hR5
          have hbs6 := hb06.size
          clear hown hbr hb5 hrj
          generalize wr.heap.size = BX at *
          go_upto_region 9 with fail
          refine wp_region_lit ?_
          go_step
          go_step
          go_step
          refine wpList_load_mid rfl 39 _ rfl BX 12 rfl (numL x) _ hX6 Tryd.underlying39 rfl (inf65.trans (by rw [numL_len])) ?_
          refine wpList_load_mid rfl 39 _ rfl NB 0 rfl (numL y0) _ hN6 Tryd.underlying39 rfl (inf65.trans (by rw [numL_len])) ?_
          go_upto_region 10 with fail
          refine wp_region_lit ?_
          go_step
          go_step
          go_step
          refine wpList_load_mid rfl 41 _ rfl BX 0 rfl (encB x) _ hR5 Tryd.underlying41 rfl (inf67.trans (by rw [encB_len])) ?_
          have hf0 := cell_of_block hG6.out 0
          have hf1 := cell_of_block hG6.out 1
          simp at hf0 hf1
          go_wp2_with fail
          refine (HTX.out x _).mono ?_
          rintro e w7 ⟨rfl, hb7⟩
          have hown7 := hown6.later hb7
          have hb07 := hb06.trans (hb7.mono hbs6)
          have hbs7 := hb07.size
          have htl : (txts (F k)).length = (F k).length := by simp [txts]
          clear hown6 hb06 hb7 hf0 hf1
          go_wp2_with (at_builtin; refine wpList_app1 rfl _ _ _ rfl _ _ _ _ elemStr _ _ _ _ rfl rfl rfl hown7 rfl (by rw [htl]; omega) hbs7 (by rw [htl]; omega) ?_; intro v1 w8 hown8 hb8 hs8)
          rw [← HE.out] at hown8
          go_roundw
          case rel => exact ⟨k + 1, by omega, by go_num, hown8, hb07.trans hb8⟩
          case measure => simp [intOf]; omega
        | false =>
          rw [q] at heq hfs
          have HE : Hid (F (k + 1) = F k) := by rw [Hid, hfs]; simp
          clear hfs
          go_upto_region 8 with fail
          refine wp_region_lit ?_
          go_step
          go_step
          go_step
          refine wpList_load_mid rfl 41 _ rfl g (k * 24) rfl (encB x) _ hrj Tryd.underlying41 rfl (inf67.trans (by rw [encB_len])) ?_
          go_step
          go_step
          go_step
          have hA5 : (wr.alloc (.cells #[.int .u8 0, .int .u8 0, .int .u8 0, .int .u8 0, .int .u8 0, .int .u8 0, .int .u8 0, .int .u8 0, .int .u8 0, .int .u8 0, .int .u8 0, .int .u8 0, .int .u8 0, .int .u8 0, .int .u8 0, .int .u8 0, .int .u8 0, .int .u8 0, .int .u8 0, .int .u8 0, .int .u8 0, .int .u8 0, .int .u8 0, .int .u8 0] 41)).heap[wr.heap.size]? = some (.cells #[.int .u8 0, .int .u8 0, .int .u8 0, .int .u8 0, .int .u8 0, .int .u8 0, .int .u8 0, .int .u8 0, .int .u8 0, .int .u8 0, .int .u8 0, .int .u8 0, .int .u8 0, .int .u8 0, .int .u8 0, .int .u8 0, .int .u8 0, .int .u8 0, .int .u8 0, .int .u8 0, .int .u8 0, .int .u8 0, .int .u8 0, .int .u8 0] 41 (0, 0)) := heap_alloc_new wr _
          have hb5 : Below wr.heap.size wr ((wr.alloc (.cells #[.int .u8 0, .int .u8 0, .int .u8 0, .int .u8 0, .int .u8 0, .int .u8 0, .int .u8 0, .int .u8 0, .int .u8 0, .int .u8 0, .int .u8 0, .int .u8 0, .int .u8 0, .int .u8 0, .int .u8 0, .int .u8 0, .int .u8 0, .int .u8 0, .int .u8 0, .int .u8 0, .int .u8 0, .int .u8 0, .int .u8 0, .int .u8 0] 41)).setCells wr.heap.size 0 (encB x)) := below_setCells (encB x) 0 ((Below.refl _ _).alloc (Nat.le_refl _) _) (Nat.le_refl _)
          have hR5 := World.rangeAt_setCells_same (wr.alloc (.cells #[.int .u8 0, .int .u8 0, .int .u8 0, .int .u8 0, .int .u8 0, .int .u8 0, .int .u8 0, .int .u8 0, .int .u8 0, .int .u8 0, .int .u8 0, .int .u8 0, .int .u8 0, .int .u8 0, .int .u8 0, .int .u8 0, .int .u8 0, .int .u8 0, .int .u8 0, .int .u8 0, .int .u8 0, .int .u8 0, .int .u8 0, .int .u8 0] 41)) wr.heap.size 0 (encB x) (by rw [encB_len]; exact there24 hA5 rfl)
          refine wpList_store_mid rfl 41 _ _ rfl wr.heap.size 0 (encB x).toArray rfl rfl (by rw [encB_size]; exact there24 hA5 rfl) (inf67.trans (by rw [encB_size])) (all_oneCell_toArray (encB_one x)) ?_
          refine wpList_nil ?_
          clear hA5
          generalize (wr.alloc (.cells #[.int .u8 0, .int .u8 0, .int .u8 0, .int .u8 0, .int .u8 0, .int .u8 0, .int .u8 0, .int .u8 0, .int .u8 0, .int .u8 0, .int .u8 0, .int .u8 0, .int .u8 0, .int .u8 0, .int .u8 0, .int .u8 0, .int .u8 0, .int .u8 0, .int .u8 0, .int .u8 0, .int .u8 0, .int .u8 0, .int .u8 0, .int .u8 0] 41)).setCells wr.heap.size 0 (encB x) = w6 at *
          have hown6 := hown.later hb5
          have hb06 : Below w4.heap.size w4 w6 := hbr.trans (hb5.mono hbr.size)
          have hN6 := range_later hR4 (w' := w6) hb06
          have hG6 : Hid (w6.heap[G0]? = some (.cells #[.int .i64 W, .int .i64 H, .slice a cells.length cap, .bool false] 35 (0, 0))) := (hb06.block G0 (block_lt hG4.out)).trans hG4.out
          have hX6 := range_nums hR5
          have hbs6 := hb06.size
          clear hown hbr hb5 hrj
          generalize wr.heap.size = BX at *
          go_upto_region 9 with fail
          refine wp_region_lit ?_
          go_step
          go_step
          go_step
          refine wpList_load_mid rfl 39 _ rfl BX 12 rfl (numL x) _ hX6 Tryd.underlying39 rfl (inf65.trans (by rw [numL_len])) ?_
          refine wpList_load_mid rfl 39 _ rfl NB 0 rfl (numL y0) _ hN6 Tryd.underlying39 rfl (inf65.trans (by rw [numL_len])) ?_
          go_wp2_with fail
          go_roundw
          case rel => exact ⟨k + 1, by omega, by go_num, by rw [HE.out]; exact hown6, hb06⟩
          case measure => simp [intOf]; omega
      · obtain rfl : k = L.length := by omega
        have HM3 : Hid (snM l = F L.length) := by
          rw [Hid, HM2.out, HFF.out]
          simp only
          rw [List.take_length, ← HLG.out, ← HYY.out]
          exact (sn_list W H ⟨ww1, w8⟩ ⟨g1, g8⟩ H12.out cells HNN.out).symm
        go_wp2_with fail
        go_ret2
        obtain ⟨a, cap, hv⟩ := hown.shape
        simp only [txts, List.length_map] at hv
        exact ⟨a, cap, by rw [HM3.out, ← hv]; rfl, by rw [HM3.out, ← hv]; exact hown.mono hb04.size, hb04.trans (hbr.mono hb04.size)⟩
end Go.Proofs.YthlbplmghjaeoaeDoor
