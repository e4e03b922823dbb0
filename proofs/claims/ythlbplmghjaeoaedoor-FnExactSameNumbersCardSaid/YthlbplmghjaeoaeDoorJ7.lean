/- Counts by the model: the numbers of all cells as digits; boards with the same numbers. -/
import Derived.Test.YthlbplmghjaeoaeDoorJ6
import Derived.Test.YthlbplmghjaeoaeDoorT9
import Derived.Outline
namespace Go.Proofs.YthlbplmghjaeoaeDoor
open Go.RowKit

/-- The numbers of all cells as digits. -/
def nmT (cells : List UInt8) (W : Nat) : List UInt8 := (List.range cells.length).map fun i => digB (numM cells W i)
theorem nmT_length (cells : List UInt8) (W : Nat) : (nmT cells W).length = cells.length := by simp [nmT]
theorem nmT_snoc (cells : List UInt8) (W k : Nat) (h : k < cells.length) : (nmT cells W).take (k + 1) = (nmT cells W).take k ++ [digB (numM cells W k)] := by
  rw [List.take_succ_eq_append_getElem (by rw [nmT_length]; exact h)]
  simp [nmT]

set_option maxRecDepth 100000 in
set_option maxHeartbeats 1600000 in
theorem ctNumbers_any (W H : Nat) (cells : List UInt8) (hW : 1 ≤ W ∧ W ≤ 8) (hH : H ≤ 8) (hn : cells.length = W * H) (hbd : Brd2 cells) (w : World) :
    Calls Tryd.prog 12 #[.string ⟨cells.toArray⟩, .int .i64 W] w fun e w' => e = .returned (.string ⟨(nmT cells W).toArray⟩) ∧ Below w.heap.size w w' := by
  have h64 : cells.length ≤ 64 := by rw [hn]; exact Nat.mul_le_mul hW.2 hH
  have HNU := Lib.hid (fun c hc w => boNumber_any W H cells c w hW hH hn hc)
  have HAS := Lib.hid (fun k (hk : k < cells.length) => hbd.asc hk)
  have HN9 := Lib.hid (fun c hc => numM_nine cells W H c hW.2 hH hn hc)
  have HSN := Lib.hid (nmT_snoc cells W)
  have HLN := Lib.hid (nmT_length cells W)
  clear hbd hW hH hn
  generalize nmT cells W = NT at *
  go_enter Tryd.func12, Tryd.ntmps12
  go_wp2_with fail
  have hI : (w.iter ⟨cells.toArray⟩ 0).heap[w.heap.size]? = some (.stringIter ⟨cells.toArray⟩ 0) := World.iter_heap w _ _
  have hbi : Below w.heap.size w (w.iter ⟨cells.toArray⟩ 0) := (Below.refl _ _).alloc (Nat.le_refl _) _
  have hsi : w.heap.size < (w.iter ⟨cells.toArray⟩ 0).heap.size := by simp [World.iter]
  generalize w.iter ⟨cells.toArray⟩ 0 = w4 at *
  generalize hII : w.heap.size = I at *
  have HII := Lib.hid hII
  clear hII
  go_loopw [5] (fun s wr => ∃ k : Nat, k ≤ cells.length ∧ s = .string ⟨(NT.take k).toArray⟩ ∧ Hid (wr.heap[I]? = some (.stringIter ⟨cells.toArray⟩ k)) ∧ Below I w4 wr) (fun _ wr => cells.length - wr.iterPos I)
  case atStart => exact ⟨0, Nat.zero_le _, by simp, hI, Below.refl _ _⟩
  case round =>
    obtain ⟨k, hk, rfl, hIr, hb⟩ := hrel
    have hIlt := block_lt hIr.out
    by_cases hlt : k < cells.length
    · have hasc := HAS.out k hlt
      have hnx := fun ty => Lib.run_next_ascii_at (P := Tryd.prog) wr I ⟨cells.toArray⟩ k ty hIr.out (by simpa [ByteArray.size] using hlt) (by simpa using hasc)
      have hpos := Lib.hid (iterPos_at hIr.out)
      have i1 := iterAt_at hIlt ⟨cells.toArray⟩ (k + 1)
      have i2 := iterAt_below wr I ⟨cells.toArray⟩ (k + 1)
      have HNUk := Lib.hid (fun w => HNU.out k hlt w)
      have HSk := Lib.hid (HSN.out k hlt)
      have HLk := Lib.hid (fun w => l1Num_any (numM cells W k) w (HN9.out k hlt))
      clear hasc
      generalize numM cells W k = nu at *
      go_wp2_with fail
      clear hnx
      generalize wr.iterAt I ⟨cells.toArray⟩ (k + 1) = wi at *
      refine (HNUk.out _).mono ?_
      rintro e w5 ⟨rfl, hb5⟩
      have hIwi := block_lt i1
      have i5 := (hb5.block _ hIwi).trans i1
      have hI5 := block_lt i5
      have hb05 := hb.trans (i2.trans (hb5.mono (by omega)))
      clear i1 i2 hb5
      go_wp2_with fail
      refine (HLk.out _).mono ?_
      rintro e w6 ⟨rfl, hb6⟩
      have i6 := (hb6.block _ hI5).trans i5
      have ip := Lib.hid (iterPos_at i6)
      have I6 := Lib.hid i6
      have hb06 := hb05.trans (hb6.mono (by omega))
      clear i5 i6 hb6 hb05
      go_wp2_with fail
      go_roundw
      case rel => exact ⟨k + 1, by omega, by rw [HSk.out] <;> rfl, I6, hb06⟩
      case measure => rw [hpos.out, ip.out]; omega
    · obtain rfl : k = cells.length := by omega
      have hnx := fun ty => Lib.run_next_end_at (P := Tryd.prog) wr I ⟨cells.toArray⟩ cells.length ty hIr.out (by simp [ByteArray.size])
      have HE : Hid (NT.take cells.length = NT) := List.take_of_length_le (by rw [HLN.out]; omega)
      go_wp2_with fail
      go_ret
      exact ⟨by rw [HE.out] <;> rfl, by rw [HII.out]; exact hbi.trans (hb.mono (by omega))⟩

/-- Is there a board of few cells? -/
def fwB (l : List UInt8) : Bool := boGoodM l && decide ((cellsM l).length ≤ 12)
set_option maxRecDepth 100000 in
theorem ctFew_any (l : List UInt8) (w : World) (hl : l.length ≤ 1048576) :
    Calls Tryd.prog 9 #[.string ⟨l.toArray⟩] w fun e w' => e = .returned (.bool (fwB l)) ∧ Below w.heap.size w w' := by
  have h1 := fun w => boGood_any l w hl
  have HC := Lib.hid (fun w => boCells_any l w hl)
  have hcl := cellsM_le l
  cases hg : boGoodM l with
  | false =>
    rw [hg] at h1
    have HF : Hid (fwB l = false) := by rw [Hid, fwB, hg]; rfl
    have H1 := Lib.hid h1
    clear hg h1
    go_enter Tryd.func9, Tryd.ntmps9
    go_wp2_with fail
    refine (H1.out _).mono ?_
    rintro e w1 ⟨rfl, hb⟩
    go_wp2_with fail
    go_ret
    exact ⟨by rw [HF.out] <;> rfl, hb⟩
  | true =>
    rw [hg] at h1
    have HF : Hid (fwB l = decide ((cellsM l).length ≤ 12)) := by rw [Hid, fwB, hg]; rfl
    have H1 := Lib.hid h1
    clear hg h1
    generalize cellsM l = cells at *
    have HD : Hid (decide ((cells.length : Int) ≤ 12) = fwB l) := by rw [Hid, HF.out]; exact decide_eq_decide.2 (by omega)
    go_enter Tryd.func9, Tryd.ntmps9
    go_wp2_with fail
    refine (H1.out _).mono ?_
    rintro e w1 ⟨rfl, hb⟩
    go_wp2_with fail
    refine (HC.out _).mono ?_
    rintro e w2 ⟨rfl, rfl⟩
    go_wp2_with fail
    go_ret
    exact ⟨congrArg (fun b => Ending.returned (.bool b)) HD.out, hb⟩

/-- What SameNumbers hands back. -/
def snB (W : Nat) (own : List UInt8) (c : List UInt8) : Bool := decide (nmT c W = own)
def snL (cells : List UInt8) (W H k : Nat) : List (List UInt8) := (((allM cells.length (-1)).take k).filter (snB W (nmT cells W))).map fun c => textM c W H
def snM (l : List UInt8) : List (List UInt8) := if fwB l = true then snL (cellsM l) (headLen (splitB 47 l)) (splitB 47 l).length (allM (cellsM l).length (-1)).length else []
theorem snL_snoc (cells : List UInt8) (W H k : Nat) (h : k < (allM cells.length (-1)).length) : snL cells W H (k + 1) = snL cells W H k ++ (if snB W (nmT cells W) (allM cells.length (-1))[k] = true then [textM (allM cells.length (-1))[k] W H] else []) := by
  rw [snL, List.take_succ_eq_append_getElem h, List.filter_append, List.map_append, snL]
  by_cases q : snB W (nmT cells W) (allM cells.length (-1))[k] = true <;> simp [q]
theorem snL_le (cells : List UInt8) (W H k : Nat) : (snL cells W H k).length ≤ k := by
  rw [snL, List.length_map]
  refine Nat.le_trans (List.length_filter_le _ _) ?_
  rw [List.length_take]
  omega

set_option maxRecDepth 100000 in
set_option maxHeartbeats 1600000 in
theorem sSameNumbers_any (l : List UInt8) (w : World) (hl : l.length ≤ 1048576) :
    Calls Tryd.prog 4 #[.string ⟨l.toArray⟩] w fun e w' => ∃ a cap, e = .returned (.tuple #[.slice a (snM l).length cap, .bool (fwB l)]) ∧ Owns w' w.heap.size 9 (.slice a (snM l).length cap) (txts (snM l)) ∧ Below w.heap.size w w' := by
  have h1 := fun w => ctFew_any l w hl
  cases hf : fwB l with
  | false =>
    rw [hf] at h1
    have HM : Hid (snM l = []) := by rw [Hid, snM, hf]; rfl
    have H1 := Lib.hid h1
    clear hf h1
    go_enter Tryd.func4, Tryd.ntmps4
    go_wp2_with fail
    refine (H1.out _).mono ?_
    rintro e w1 ⟨rfl, hb⟩
    go_wp2_with fail
    go_ret2
    exact ⟨none, 0, by rw [HM.out]; rfl, by rw [HM.out]; exact Owns.nil _ _ _, hb⟩
  | true =>
    rw [hf] at h1
    have HM : Hid (snM l = snL (cellsM l) (headLen (splitB 47 l)) (splitB 47 l).length (allM (cellsM l).length (-1)).length) := by rw [Hid, snM, if_pos hf]
    rw [fwB, Bool.and_eq_true] at hf
    obtain ⟨hg, h12⟩ := hf
    have h12 := of_decide_eq_true h12
    have hB := Brd.of hg
    have H1 := Lib.hid h1
    have hbs := fun w => boSize_any l w hl
    rw [hB.size] at hbs
    have HBS := Lib.hid hbs
    have HBC := Lib.hid (fun w => boCells_any l w hl)
    generalize headLen (splitB 47 l) = W at *
    generalize (splitB 47 l).length = H at *
    generalize cellsM l = cells at *
    have hbd : Brd2 cells := hB.sign
    have hlen := hB.len
    have hW : 1 ≤ W ∧ W ≤ 8 := ⟨hB.w1, hB.w8⟩
    have hH : H ≤ 8 := hB.h8
    have HNO := Lib.hid (fun w => ctNumbers_any W H cells hW hH hlen hbd w)
    have HAL := Lib.hid (fun w => ctAll_any cells.length (-1) h12 w)
    have hll := allM_le cells.length (-1) h12
    have HNK := Lib.hid (fun k (hk : k < (allM cells.length (-1)).length) w => ctNumbers_any W H (allM cells.length (-1))[k] hW hH ((allM_len (List.getElem_mem hk)).trans hlen) (allM_brd (List.getElem_mem hk)) w)
    have HRK := Lib.hid (fun k (hk : k < (allM cells.length (-1)).length) w => boRows_any (allM cells.length (-1))[k] W w (by have := allM_len (List.getElem_mem hk); omega) hW.1 (by omega))
    have HBR := Lib.hid (fun k (hk : k < (allM cells.length (-1)).length) => brGo_text W H hW.1 (allM cells.length (-1))[k] ((allM_len (List.getElem_mem hk)).trans hlen))
    have HSN := Lib.hid (fun k hk => snL_snoc cells W H k hk)
    have HSL := Lib.hid (fun k => snL_le cells W H k)
    have HSB : Hid (∀ c, snB W (nmT cells W) c = decide (nmT c W = nmT cells W)) := fun _ => rfl
    have HS0 : Hid (snL cells W H 0 = []) := by rw [Hid, snL]; rfl
    have hn64 : cells.length ≤ 64 := by omega
    generalize allM cells.length (-1) = A at *
    generalize nmT cells W = own at *
    clear h1 hB hg hbd hlen hbs
    go_enter Tryd.func4, Tryd.ntmps4
    go_wp2_with fail
    refine (H1.out _).mono ?_
    rintro e w1 ⟨rfl, hb⟩
    go_wp2_with fail
    refine (HBS.out _).mono ?_
    rintro e w2 ⟨rfl, hb2⟩
    have hb02 := hb.trans (hb2.mono hb.size)
    clear hb hb2
    go_wp2_with fail
    refine (HBC.out _).mono ?_
    rintro e w3 ⟨rfl, rfl⟩
    go_wp2_with fail
    refine (HNO.out _).mono ?_
    rintro e w4 ⟨rfl, hb4⟩
    have hb04 := hb02.trans (hb4.mono hb02.size)
    clear hb02 hb4
    go_wp2_with fail
    refine (HAL.out _).mono ?_
    rintro e w5 ⟨a5, c5, rfl, ho5, hb5⟩
    have hb05 := hb04.trans (hb5.mono hb04.size)
    have hat5 := ho5.at
    clear hb04 hb5 ho5
    go_wp2_with fail
    have HAT5 := Lib.hid hat5
    clear hat5
    go_loopw [8, 28] (fun v i wr => ∃ k : Nat, k ≤ A.length ∧ i = .int .i64 k ∧ Owns wr w5.heap.size 9 v (txts (snL cells W H k)) ∧ Below w5.heap.size w5 wr) (fun _ i _ => A.length - (intOf i).toNat)
    case atStart => exact ⟨0, Nat.zero_le _, rfl, by rw [HS0.out]; exact Owns.nil _ _ _, Below.refl _ _⟩
    case round =>
      obtain ⟨k, hk, rfl, hown, hb⟩ := hrel
      have hbs := hb.size
      by_cases hlt : k < A.length
      · obtain ⟨g, o, hag, hc⟩ := txts_at (HAT5.out.later rfl hb) k hlt
        subst hag
        have HNk := Lib.hid (HNK.out k hlt)
        have HRk := Lib.hid (HRK.out k hlt)
        rw [HBR.out k hlt] at HRk
        have hsn := HSN.out k hlt
        have hsl := HSL.out k
        have hsb := HSB.out A[k]
        generalize A[k] = x at *
        generalize nmT x W = nx at *
        cases e1 : snB W own x with
        | true =>
          have hd : (nx == own) = true := by rw [hsb] at e1; simpa using e1
          have HE : Hid (txts (snL cells W H (k + 1)) = txts (snL cells W H k) ++ [.string ⟨(textM x W H).toArray⟩]) := by rw [Hid, hsn, if_pos e1]; simp [txts]
          clear e1 hsn hsb
          go_wp2_with fail
          refine (HNk.out _).mono ?_
          rintro e w6 ⟨rfl, hb6⟩
          have hown6 := hown.later hb6
          have hb06 := hb.trans (hb6.mono hbs)
          have hbs6 := hb06.size
          clear hown hb hb6
          go_wp2_with fail
          refine (HRk.out _).mono ?_
          rintro e w6' ⟨rfl, rfl⟩
          go_wp2_with (at_builtin; refine wpList_app1 rfl _ _ _ rfl _ _ _ _ elemStr _ _ _ _ rfl rfl rfl hown6 rfl (by simp; omega) hbs6 (by simp; omega) ?_; intro v1 w7 hown7 hb7 hs7)
          rw [← HE.out] at hown7
          go_roundw
          case rel => exact ⟨k + 1, by omega, by go_num, hown7, hb06.trans hb7⟩
          case measure => simp [intOf]; omega
        | false =>
          have hd : (nx == own) = false := by rw [hsb] at e1; simpa using e1
          have HE : Hid (snL cells W H (k + 1) = snL cells W H k) := by rw [Hid, hsn, e1]; simp
          clear e1 hsn hsb
          go_wp2_with fail
          refine (HNk.out _).mono ?_
          rintro e w6 ⟨rfl, hb6⟩
          have hown6 := hown.later hb6
          have hb06 := hb.trans (hb6.mono hbs)
          clear hown hb hb6
          go_wp2_with fail
          go_roundw
          case rel => exact ⟨k + 1, by omega, by go_num, by rw [HE.out]; exact hown6, hb06⟩
          case measure => simp [intOf]; omega
      · obtain rfl : k = A.length := by omega
        go_wp2_with fail
        go_ret2
        obtain ⟨a, cap, hv⟩ := hown.shape
        simp only [txts, List.length_map] at hv
        exact ⟨a, cap, by rw [HM.out, ← hv]; rfl, by rw [HM.out, ← hv]; exact hown.mono hb05.size, hb05.trans (hb.mono hb05.size)⟩
end Go.Proofs.YthlbplmghjaeoaeDoor
