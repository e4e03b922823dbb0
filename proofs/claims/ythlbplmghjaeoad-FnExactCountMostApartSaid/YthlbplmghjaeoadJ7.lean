/- Counts by the model: the numbers of all cells as digits; boards with the same numbers. -/
import Derived.Test.YthlbplmghjaeoadGJ5
import Derived.Test.YthlbplmghjaeoadT9
import Derived.Outline
namespace Go.Proofs.Ythlbplmghjaeoad
open Go.RowKit

/-- The numbers of all cells as digits. -/
def nmT (cells : List UInt8) (W : Nat) : List UInt8 := (List.range cells.length).map fun i => digB (numM cells W i)
theorem nmT_length (cells : List UInt8) (W : Nat) : (nmT cells W).length = cells.length := by simp [nmT]
theorem nmT_snoc (cells : List UInt8) (W k : Nat) (h : k < cells.length) : (nmT cells W).take (k + 1) = (nmT cells W).take k ++ [digB (numM cells W k)] := by
  rw [List.take_succ_eq_append_getElem (by rw [nmT_length]; exact h)]
  simp [nmT]

set_option maxRecDepth 100000 in
set_option maxHeartbeats 1600000 in
theorem ctNumbers_any (W H : Nat) (cells : List UInt8) (hW : 1 ≤ W ∧ W ≤ 8) (hH : H ≤ 8) (hn : cells.length = W * H) (hbd : Brd2 cells) (w : World) :
    Calls Try.prog 59 #[.string ⟨cells.toArray⟩, .int .i64 W] w fun e w' => e = .returned (.string ⟨(nmT cells W).toArray⟩) ∧ Below w.heap.size w w' := by
  have h64 : cells.length ≤ 64 := by rw [hn]; exact Nat.mul_le_mul hW.2 hH
  have HNU := Lib.hid (fun c hc w => boNumber_any W H cells c w hW hH hn hc)
  have HAS := Lib.hid (fun k (hk : k < cells.length) => hbd.asc hk)
  have HN9 := Lib.hid (fun c hc => numM_nine cells W H c hW.2 hH hn hc)
  have HSN := Lib.hid (nmT_snoc cells W)
  have HLN := Lib.hid (nmT_length cells W)
  clear hbd hW hH hn
  generalize nmT cells W = NT at *
  go_enter Try.func59, Try.ntmps59
  go_wp2_with fail
  have hI : (w.iter ⟨cells.toArray⟩ 0).heap[w.heap.size]? = some (.stringIter ⟨cells.toArray⟩ 0) := World.iter_heap w _ _
  have hbi : Below w.heap.size w (w.iter ⟨cells.toArray⟩ 0) := (Below.refl _ _).alloc (Nat.le_refl _) _
  have hsi : w.heap.size < (w.iter ⟨cells.toArray⟩ 0).heap.size := by simp [World.iter]
  generalize w.iter ⟨cells.toArray⟩ 0 = w4 at *
  generalize hII : w.heap.size = I at *
  have HII := Lib.hid hII
  clear hII
  go_loopw [5] (fun s wr => ∃ k : Nat, k ≤ cells.length ∧ s = .string ⟨(NT.take k).toArray⟩ ∧ Hid (wr.heap[I]? = some (.stringIter ⟨cells.toArray⟩ k)) ∧ Below I w4 wr) (fun _ wr => cells.length - wr.iterPos I)
  case atStart => exact ⟨0, Nat.zero_le _, by simp, hI, Below.refl _ _⟩
  case round =>
    obtain ⟨k, hk, rfl, hIr, hb⟩ := hrel
    have hIlt := block_lt hIr.out
    by_cases hlt : k < cells.length
    · have hasc := HAS.out k hlt
      have hnx := fun ty => Lib.run_next_ascii_at (P := Try.prog) wr I ⟨cells.toArray⟩ k ty hIr.out (by simpa [ByteArray.size] using hlt) (by simpa using hasc)
      have hpos := Lib.hid (iterPos_at hIr.out)
      have i1 := iterAt_at hIlt ⟨cells.toArray⟩ (k + 1)
      have i2 := iterAt_below wr I ⟨cells.toArray⟩ (k + 1)
      have HNUk := Lib.hid (fun w => HNU.out k hlt w)
      have HSk := Lib.hid (HSN.out k hlt)
      have HLk := Lib.hid (fun w => l1Num_any (numM cells W k) w (HN9.out k hlt))
      clear hasc
      generalize numM cells W k = nu at *
      go_wp2_with fail
      clear hnx
      generalize wr.iterAt I ⟨cells.toArray⟩ (k + 1) = wi at *
      refine (HNUk.out _).mono ?_
      rintro e w5 ⟨rfl, hb5⟩
      have hIwi := block_lt i1
      have i5 := (hb5.block _ hIwi).trans i1
      have hI5 := block_lt i5
      have hb05 := hb.trans (i2.trans (hb5.mono (by omega)))
      clear i1 i2 hb5
      go_wp2_with fail
      refine (HLk.out _).mono ?_
      rintro e w6 ⟨rfl, hb6⟩
      have i6 := (hb6.block _ hI5).trans i5
      have ip := Lib.hid (iterPos_at i6)
      have I6 := Lib.hid i6
      have hb06 := hb05.trans (hb6.mono (by omega))
      clear i5 i6 hb6 hb05
      go_wp2_with fail
      go_roundw
      case rel => exact ⟨k + 1, by omega, by rw [HSk.out] <;> rfl, I6, hb06⟩
      case measure => rw [hpos.out, ip.out]; omega
    · obtain rfl : k = cells.length := by omega
      have hnx := fun ty => Lib.run_next_end_at (P := Try.prog) wr I ⟨cells.toArray⟩ cells.length ty hIr.out (by simp [ByteArray.size])
      have HE : Hid (NT.take cells.length = NT) := List.take_of_length_le (by rw [HLN.out]; omega)
      go_wp2_with fail
      go_ret
      exact ⟨by rw [HE.out] <;> rfl, by rw [HII.out]; exact hbi.trans (hb.mono (by omega))⟩

/-- Is there a board of few cells? -/
def fwB (l : List UInt8) : Bool := boGoodM l && decide ((cellsM l).length ≤ 12)

/-- What SameNumbers hands back. -/
def snB (W : Nat) (own : List UInt8) (c : List UInt8) : Bool := decide (nmT c W = own)
def snL (cells : List UInt8) (W H k : Nat) : List (List UInt8) := (((allM cells.length (-1)).take k).filter (snB W (nmT cells W))).map fun c => textM c W H
def snM (l : List UInt8) : List (List UInt8) := if fwB l = true then snL (cellsM l) (headLen (splitB 47 l)) (splitB 47 l).length (allM (cellsM l).length (-1)).length else []
theorem snL_snoc (cells : List UInt8) (W H k : Nat) (h : k < (allM cells.length (-1)).length) : snL cells W H (k + 1) = snL cells W H k ++ (if snB W (nmT cells W) (allM cells.length (-1))[k] = true then [textM (allM cells.length (-1))[k] W H] else []) := by
  rw [snL, List.take_succ_eq_append_getElem h, List.filter_append, List.map_append, snL]
  by_cases q : snB W (nmT cells W) (allM cells.length (-1))[k] = true <;> simp [q]
theorem snL_le (cells : List UInt8) (W H k : Nat) : (snL cells W H k).length ≤ k := by
  rw [snL, List.length_map]
  refine Nat.le_trans (List.length_filter_le _ _) ?_
  rw [List.length_take]
  omega

end Go.Proofs.Ythlbplmghjaeoad
