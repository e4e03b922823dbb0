/- Counts by the model: the sum of numbers of the cells of a board. -/
import Derived.Test.YthlbplmghjaeoadJ4
import Derived.Test.YthlbplmghjaeoadN9
import Derived.Outline
namespace Go.Proofs.Ythlbplmghjaeoad
open Go.RowKit

/-- Signs of a board alone. -/
def Brd2 (cells : List UInt8) : Prop := ∀ c ∈ cells, c = 46 ∨ c = 42
theorem Brd2.asc {cells : List UInt8} (h : Brd2 cells) {k : Nat} (hk : k < cells.length) : cells[k].toNat < 128 := by
  rcases h _ (List.getElem_mem hk) with e | e <;> rw [e] <;> decide
theorem ctB_brd (n m : Nat) : Brd2 (ctB n m) := by
  intro c hc
  obtain ⟨i, _, rfl⟩ := List.mem_map.1 hc
  split
  · exact .inl rfl
  · exact .inr rfl
theorem allM_brd {n : Nat} {mines : Int} {c : List UInt8} (h : c ∈ allM n mines) : Brd2 c := by
  obtain ⟨h1, _⟩ := List.mem_filter.1 h
  obtain ⟨m, _, rfl⟩ := List.mem_map.1 h1
  exact ctB_brd n m

set_option maxRecDepth 100000 in
set_option maxHeartbeats 1600000 in
theorem ctSum_any (W H : Nat) (cells : List UInt8) (hW : 1 ≤ W ∧ W ≤ 8) (hH : H ≤ 8) (hn : cells.length = W * H) (hbd : Brd2 cells) (w : World) :
    Calls Try.prog 53 #[.string ⟨cells.toArray⟩, .int .i64 W] w fun e w' => e = .returned (.int .i64 (sumGo cells W 0 cells.length : Nat)) ∧ Below w.heap.size w w' := by
  have h64 : cells.length ≤ 64 := by rw [hn]; exact Nat.mul_le_mul hW.2 hH
  have HNU := Lib.hid (fun c hc w => boNumber_any W H cells c w hW hH hn hc)
  have HAS := Lib.hid (fun k (hk : k < cells.length) => hbd.asc hk)
  have HSL := Lib.hid (fun m k => sumGo_le cells W m k)
  have HNL := Lib.hid (fun c => numM_le cells W c)
  have HSG : Hid (∀ k (h : k < cells.length), sumGo cells W k (cells.length - k) = if cells[k] = 42 then sumGo cells W (k + 1) (cells.length - (k + 1)) else numM cells W k + sumGo cells W (k + 1) (cells.length - (k + 1))) := by
    intro k h
    have hgd : cells.getD k 0 = cells[k] := by simp [List.getD, h]
    rw [show cells.length - k = (cells.length - (k + 1)) + 1 by omega, sumGo, hgd]
  have hS0 : sumGo cells W 0 cells.length ≤ 64 * 64 := Nat.le_trans (sumGo_le cells W cells.length 0) (Nat.mul_le_mul h64 h64)
  clear hbd hW hH hn
  go_enter Try.func53, Try.ntmps53
  go_wp2_with fail
  have hI : (w.iter ⟨cells.toArray⟩ 0).heap[w.heap.size]? = some (.stringIter ⟨cells.toArray⟩ 0) := World.iter_heap w _ _
  have hbi : Below w.heap.size w (w.iter ⟨cells.toArray⟩ 0) := (Below.refl _ _).alloc (Nat.le_refl _) _
  have hsi : w.heap.size < (w.iter ⟨cells.toArray⟩ 0).heap.size := by simp [World.iter]
  generalize w.iter ⟨cells.toArray⟩ 0 = w4 at *
  generalize hII : w.heap.size = I at *
  have HII := Lib.hid hII
  clear hII
  generalize hTT : sumGo cells W 0 cells.length = T at *
  have HTT := Lib.hid hTT
  clear hTT
  go_loopw [5] (fun s wr => ∃ k a : Nat, k ≤ cells.length ∧ s = .int .i64 a ∧ a ≤ T ∧ Hid (wr.heap[I]? = some (.stringIter ⟨cells.toArray⟩ k)) ∧ Hid (T = a + sumGo cells W k (cells.length - k)) ∧ Below I w4 wr) (fun _ wr => cells.length - wr.iterPos I)
  case atStart => exact ⟨0, 0, Nat.zero_le _, rfl, Nat.zero_le _, hI, by rw [Hid, Nat.zero_add, Nat.sub_zero]; exact HTT.out.symm, Below.refl _ _⟩
  case round =>
    obtain ⟨k, a, hk, rfl, haT, hIr, hR, hb⟩ := hrel
    have hIlt := block_lt hIr.out
    by_cases hlt : k < cells.length
    · have HST := Lib.hid (HSG.out k hlt)
      have hasc := HAS.out k hlt
      have hnx := fun ty => Lib.run_next_ascii_at (P := Try.prog) wr I ⟨cells.toArray⟩ k ty hIr.out (by simpa [ByteArray.size] using hlt) (by simpa using hasc)
      have hpos := Lib.hid (iterPos_at hIr.out)
      have i1 := iterAt_at hIlt ⟨cells.toArray⟩ (k + 1)
      have i2 := iterAt_below wr I ⟨cells.toArray⟩ (k + 1)
      have hnl := HNL.out k
      have HNUk := Lib.hid (fun w => HNU.out k hlt w)
      clear hasc
      by_cases h42 : cells[k] = 42
      · have hd : ((cells[k].toNat : Int) != 42) = false := by simp only [bne, is42]; simp [h42]
        have H42 := Lib.hid h42
        clear h42
        go_wp2_with fail
        clear hnx
        go_roundw
        case rel => exact ⟨k + 1, a, by omega, rfl, haT, i1, by rw [Hid, hR.out, HST.out, if_pos H42.out], hb.trans i2⟩
        case measure => rw [hpos.out, iterPos_at i1]; omega
      · have hd : ((cells[k].toNat : Int) != 42) = true := by simp only [bne, is42]; simp [h42]
        have hT2 : a + numM cells W k ≤ T := by rw [hR.out, HST.out, if_neg h42]; omega
        have HR2 : Hid (T = a + numM cells W k + sumGo cells W (k + 1) (cells.length - (k + 1))) := by rw [Hid, hR.out, HST.out, if_neg h42]; omega
        clear h42
        generalize numM cells W k = nu at *
        go_wp2_with fail
        clear hnx
        generalize wr.iterAt I ⟨cells.toArray⟩ (k + 1) = wi at *
        refine (HNUk.out _).mono ?_
        rintro e w5 ⟨rfl, hb5⟩
        have hIwi := block_lt i1
        have i5 := (hb5.block _ hIwi).trans i1
        have ip := Lib.hid (iterPos_at i5)
        have I5 := Lib.hid i5
        have hb05 := hb.trans (i2.trans (hb5.mono (by omega)))
        clear i1 i5 i2
        go_wp2_with fail
        go_roundw
        case rel => exact ⟨k + 1, a + nu, by omega, by go_num, hT2, I5, HR2, hb05⟩
        case measure => rw [hpos.out, ip.out]; omega
    · obtain rfl : k = cells.length := by omega
      have hnx := fun ty => Lib.run_next_end_at (P := Try.prog) wr I ⟨cells.toArray⟩ cells.length ty hIr.out (by simp [ByteArray.size])
      have HR2 : Hid (T = a) := by rw [Hid, hR.out, Nat.sub_self]; rfl
      clear hR
      go_wp2_with fail
      go_ret
      exact ⟨by rw [HTT.out, HR2.out] <;> rfl, by rw [HII.out]; exact hbi.trans (hb.mono (by omega))⟩
end Go.Proofs.Ythlbplmghjaeoad
