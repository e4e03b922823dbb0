/- SameNumbers by the program. -/
import Derived.Test.YthlbplmghjaeoaeKO
import Derived.Test.YthlbplmghjaeoaeKQ
import Derived.Test.YthlbplmghjaeoaeKG
import Derived.Test.YthlbplmghjaeoaeJ7
import Derived.Test.YthlbplmghjaeoaeKR
import Derived.Test.YthlbplmghjaeoaeGI4
import Derived.Test.YthlbplmghjaeoaeK1
import Derived.Outline
namespace Go.Proofs.Ythlbplmghjaeoae
open Go.RowKit

theorem snM_len (l : List UInt8) : (snM l).length ≤ 1048576 := by
  unfold snM
  split
  · rename_i h
    unfold fwB at h
    rw [Bool.and_eq_true] at h
    have h1 := snL_le (cellsM l) (headLen (splitB 47 l)) (splitB 47 l).length (allM (cellsM l).length (-1)).length
    have h2 := allM_le (cellsM l).length (-1) (of_decide_eq_true h.2)
    omega
  · simp
theorem sn_small (l : List UInt8) : szB (gW l) (gH l) 12 = fwB l := by
  unfold fwB
  cases hg : boGoodM l with
  | false =>
    have : gW l = 0 := by unfold gW; rw [hg]; rfl
    rw [this]; rfl
  | true =>
    have B := Brd.of hg
    obtain ⟨e1, e2, e3⟩ := B.grid
    rw [e1, e2, B.len, Bool.true_and]
    have h1 : inB ((headLen (splitB 47 l) : Nat) : Int) 1 8 = true := inB_iff.2 ⟨by have := B.w1; omega, by have := B.w8; omega⟩
    have h2 : inB (((splitB 47 l).length : Nat) : Int) 1 8 = true := inB_iff.2 ⟨by have := B.h1; omega, by have := B.h8; omega⟩
    rw [szB, h1, h2, Bool.true_and, Bool.true_and, decide_eq_decide, ← Int.natCast_mul]
    omega

theorem numW_out (W n : Nat) (u : List UInt8) (i : Nat) (hi : n ≤ i) : numW W n u i = 0 := by
  unfold numW
  rw [sumW_congr (g := fun _ => 0) u 0 fun j _ _ => ?_, sumW_zero]
  exact List.count_eq_zero.2 fun h => by have := nearM_lt W n j i h; omega
theorem numM_8 (W H : Nat) (hW : W ≤ 8) (hH : H ≤ 8) (h12 : W * H ≤ 12) (c : List UInt8) (hn : c.length = W * H) (i : Nat) (hi : i < W * H) : numM c W i ≤ 8 := by
  have := (near12_all W (by omega) H (by omega) h12 i hi).2
  unfold numM
  rw [hn]
  exact Nat.le_trans (countAt_le _ _) this
theorem eqN_snB (W H : Nat) (hW : W ≤ 8) (hH : H ≤ 8) (h12 : W * H ≤ 12) (c d : List UInt8) (hc : c.length = W * H) (hd : d.length = W * H) : (preB W (W * H) c).eqN (preB W (W * H) d) = snB W (nmT d W) c := by
  rw [Bool.eq_iff_iff]
  unfold LB.eqN snB
  rw [List.all_eq_true, decide_eq_true_eq]
  constructor
  · intro h
    refine List.ext_getElem (by rw [nmT_length, nmT_length, hc, hd]) fun i h1 h2 => ?_
    have hi : i < W * H := by rw [nmT_length, hc] at h1; exact h1
    have e := h i (List.mem_range.2 (by omega))
    rw [pre_numM W H hW hH h12 c hc i hi, pre_numM W H hW hH h12 d hd i hi] at e
    have e' : numM c W i = numM d W i := by
      have e2 : ((numM c W i : Nat) : Int) = ((numM d W i : Nat) : Int) := by simpa using e
      omega
    simp [nmT, e']
  · intro h i hi
    have hi := List.mem_range.1 hi
    by_cases q : i < W * H
    · rw [pre_numM W H hW hH h12 c hc i q, pre_numM W H hW hH h12 d hd i q]
      have e : (nmT c W)[i]'(by rw [nmT_length, hc]; exact q) = (nmT d W)[i]'(by rw [nmT_length, hd]; exact q) := by simp only [h]
      simp only [nmT, List.getElem_map, List.getElem_range] at e
      have e2 := congrArg UInt8.toNat e
      rw [digB_nat _ (by have := numM_8 W H hW hH h12 c hc i q; omega), digB_nat _ (by have := numM_8 W H hW hH h12 d hd i q; omega)] at e2
      have : numM c W i = numM d W i := by omega
      simp [this]
    · rw [pre_num _ _ _ _ hi, pre_num _ _ _ _ hi, numW_out _ _ _ _ (by omega), numW_out _ _ _ _ (by omega)]
      simp
theorem pre_take (W n : Nat) (c : List UInt8) (hc : c.length = n) (hn : n ≤ 12) : (preB W n c).1.take n = c := by
  show (preP W n c).take n = c
  refine List.ext_getElem (by rw [List.length_take, preP_length]; omega) fun k k1 k2 => ?_
  have hk : k < 12 := by omega
  have e1 := preP_sign W n c k hk
  rw [List.getElem_take]
  have l1 : k < (preP W n c).length := by rw [preP_length]; omega
  simpa [List.getD, l1, k2] using e1
theorem sn_list (W H : Nat) (hW : 1 ≤ W ∧ W ≤ 8) (hH : 1 ≤ H ∧ H ≤ 8) (h12 : W * H ≤ 12) (cells : List UInt8) (hn : cells.length = W * H) :
    ((listGo W (W * H) (W * H)).filter fun x => x.eqN (preB W (W * H) cells)).map (fun x => textM (x.1.take (W * H)) W H) = snL cells W H (allM cells.length (-1)).length := by
  unfold snL
  rw [List.take_length, hn, listGo_all W (W * H) h12, List.filter_map, List.map_map]
  have e : (allM (W * H) (-1)).filter ((fun x : LB => x.eqN (preB W (W * H) cells)) ∘ preB W (W * H)) = (allM (W * H) (-1)).filter (snB W (nmT cells W)) :=
    List.filter_congr fun c hc => eqN_snB W H hW.2 hH.2 h12 c cells (allM_len hc) hn
  rw [e]
  refine List.map_congr_left fun c hc => ?_
  have hc := (List.mem_filter.1 hc).1
  simp only [Function.comp]
  rw [pre_take W (W * H) c (allM_len hc) h12]

end Go.Proofs.Ythlbplmghjaeoae
