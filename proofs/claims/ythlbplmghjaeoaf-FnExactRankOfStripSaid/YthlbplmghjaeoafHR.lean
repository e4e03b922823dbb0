/- Strips: how many lists come before one, by the program, where DoesFitStrip keeps its contract. -/
import Derived.Test.YthlbplmghjaeoafHQ
namespace Go.Proofs.Ythlbplmghjaeoaf
open Go.RowKit

set_option maxRecDepth 100000 in
set_option maxHeartbeats 3200000 in
theorem iRankOfStrip_of (s b : List UInt8) (w : World) (_hs : s.length ≤ 1048576) (_hb : b.length ≤ 1048576)
    (hdf : ∀ w, Calls Try.prog 9 #[.string ⟨s.toArray⟩, .string ⟨b.toArray⟩] w fun e w' => e = .returned (.tuple #[.bool (dfV s b), .bool (dfB s b)]) ∧ Below w.heap.size w w') :
    Calls Try.prog 5 #[.string ⟨s.toArray⟩, .string ⟨b.toArray⟩] w fun e w' => e = .returned (.tuple #[.int .i64 (rkV s b : Nat), .bool (dfV s b)]) ∧ Below w.heap.size w w' := by
  have HV : Hid (dfV s b = (dfB s b && ftM s b)) := rfl
  have HK : Hid (rkV s b = if dfV s b = true then rnM s (b.map fun c => c == 42) else 0) := rfl
  cases h1 : dfV s b with
  | false =>
    rw [h1] at hdf
    have HD := Lib.hid hdf
    have HK2 : Hid (rkV s b = 0) := by rw [Hid, HK.out, h1]; rfl
    clear hdf h1
    rw [HK2.out]
    generalize dfB s b = B at *
    go_enter Try.func5, Try.ntmps5
    go_wp2_with fail
    refine (HD.out _).mono ?_
    rintro e w1 ⟨rfl, hb1⟩
    go_wp2_with fail
    go_ret2
    exact ⟨rfl, hb1⟩
  | true =>
    have hB : dfB s b = true := by
      have h := HV.out
      rw [h1] at h
      exact (Bool.and_eq_true_iff.1 h.symm).1
    rw [h1, hB] at hdf
    have HD := Lib.hid hdf
    have h2 : stM s = true ∧ mlM b = true ∧ s.length = b.length := by
      rw [dfB] at hB
      simp at hB
      exact hB
    obtain ⟨hg, hml, hlen⟩ := h2
    obtain ⟨t, ht⟩ := ml_bits hml
    have HK2 : Hid (rkV s b = sumN t.length (rnF s t)) := by rw [Hid, HK.out, h1, if_pos rfl, ht, bits_back]; rfl
    obtain ⟨_, hn40, _⟩ := stM_facts hg
    have htl : b.length = t.length := by rw [ht, List.length_map]
    have hcall : ∀ k, k < b.length → ∀ w, Calls Try.prog 10 #[.string ⟨s.toArray⟩, .string ⟨(b.take k ++ [42]).toArray⟩] w fun e w' => e = .returned (.agg (wvA (fitW s ((t.take k ++ [true]).map sgM)))) ∧ Below w.heap.size w w' := fun k hk w => by
      rw [ht, ← List.map_take, (sg_text _).1]
      exact fittingWays_any s _ w hn40 (by simp; omega)
    have HCALL := Lib.hid hcall
    have hbk : ∀ k (h : k < b.length), b[k] = sgM (t.getD k false) := fun k h => by
      have h' : k < t.length := by omega
      simp [ht, List.getD, h']
    have HBK := Lib.hid hbk
    have HLE := Lib.hid fun k => rkA_le hn40 (t.take k)
    have HTT := Lib.hid fun k w => total_any (fitW s ((t.take k ++ [true]).map sgM)) w (fitW_tot40 s _ hn40)
    have HSL := Lib.hid (rn_le hn40 t)
    have HTL := Lib.hid htl
    have hb40 : b.length ≤ 40 := by omega
    rw [HK2.out, ← HTL.out]
    clear hdf h1 hB hg hml hlen ht hcall hbk htl
    go_enter Try.func5, Try.ntmps5
    go_wp2_with fail
    refine (HD.out _).mono ?_
    rintro e w2 ⟨rfl, hb02⟩
    go_wp2_with fail
    have hI : (w2.iter ⟨b.toArray⟩ 0).heap[w2.heap.size]? = some (.stringIter ⟨b.toArray⟩ 0) := World.iter_heap w2 _ _
    have hb4 : Below w.heap.size w (w2.iter ⟨b.toArray⟩ 0) := hb02.trans (((Below.refl _ _).alloc (Nat.le_refl _) _).mono hb02.size)
    have hws := hb02.size
    generalize w2.iter ⟨b.toArray⟩ 0 = w4 at *
    generalize hII : w2.heap.size = I at *
    clear hII hb02 HD
    go_loopw [8, 9, 10] (fun v _ _ wr => ∃ k : Nat, k ≤ b.length ∧ v = .int .i64 (sumN k (rnF s t) : Nat) ∧ Hid (wr.heap[I]? = some (.stringIter ⟨b.toArray⟩ k)) ∧ Below w.heap.size w wr) (fun _ _ _ wr => b.length - wr.iterPos I)
    case atStart => exact ⟨0, Nat.zero_le _, rfl, hI, hb4⟩
    case round =>
      clear hI hb4
      obtain ⟨k, hk, rfl, hIr, hbr⟩ := hrel
      have hIlt := block_lt hIr.out
      by_cases hlt : k < b.length
      · have hch := HBK.out k hlt
        have hasc : b[k].toNat < 128 := by rw [hch]; cases t.getD k false <;> decide
        have hnx := fun ty => Lib.run_next_ascii_at (P := Try.prog) wr I ⟨b.toArray⟩ k ty hIr.out (by simpa [ByteArray.size] using hlt) (by simpa using hasc)
        have hpos := Lib.hid (iterPos_at hIr.out)
        have i1 := iterAt_at hIlt ⟨b.toArray⟩ (k + 1)
        have i2 := iterAt_below wr I ⟨b.toArray⟩ (k + 1)
        have hbi : Below w.heap.size w (wr.iterAt I ⟨b.toArray⟩ (k + 1)) := hbr.trans (i2.mono hws)
        have hsn : Hid (sumN (k + 1) (rnF s t) = sumN k (rnF s t) + rnF s t k) := rfl
        have hle := HSL.out k
        have hls : sumN k (rnF s t) ≤ 87960930222080 := by omega
        clear hle
        generalize hsk : sumN k (rnF s t) = sk at *
        clear hsk
        cases hbit : t.getD k false with
        | true =>
          have h46 : ((b[k].toNat : Int) == 46) = false := by rw [hch, hbit]; rfl
          have hs1 : Hid (sumN (k + 1) (rnF s t) = sk) := by rw [Hid, hsn.out, rnF, hbit]; rfl
          clear hch hasc hsn hbit i2
          go_wp2_with fail
          clear hnx
          generalize wr.iterAt I ⟨b.toArray⟩ (k + 1) = wi at *
          have ip := Lib.hid (iterPos_at i1)
          have I1 := Lib.hid i1
          clear i1
          go_roundw
          case rel => exact ⟨k + 1, by omega, by rw [hs1.out], I1, hbi⟩
          case measure => rw [hpos.out, ip.out]; omega
        | false =>
          have h46 : ((b[k].toNat : Int) == 46) = true := by rw [hch, hbit]; rfl
          have hs1 : Hid (sumN (k + 1) (rnF s t) = sk + rkA s (t.take k)) := by rw [Hid, hsn.out, rnF, hbit]; rfl
          have HC := Lib.hid fun w => HCALL.out k hlt w
          have hal := HLE.out k
          have hcq := HTT.out k
          rw [show sumN 41 (fitW s ((t.take k ++ [true]).map sgM)) = rkA s (t.take k) from rfl] at hcq
          have HCQ := Lib.hid hcq
          generalize fitW s ((t.take k ++ [true]).map sgM) = g at *
          generalize rkA s (t.take k) = A at *
          have hsl : ∀ w, (Instr.slice 9 (.string ⟨b.toArray⟩) none (some (.int .i64 (k : Int))) none).run Try.prog w = .ok (.string ⟨(b.take k).toArray⟩) w := fun w => by
            have hsz : (ByteArray.mk b.toArray).size = b.length := by simp [ByteArray.size]
            rw [run_slice_string_h (ht := Try.underlying9) (h0 := by omega) (h2 := by rw [hsz]; omega)]
            congr 2
            apply ByteArray.ext
            rw [ByteArray.data_extract]
            apply Array.ext'
            rw [Array.toList_extract]
            show (b.drop 0).take (k - 0) = b.take k
            rfl
          have hsl2 : ∀ w, (Instr.sliceAt 9 (.string ⟨b.toArray⟩) none (some (.int .i64 (k : Int))) none).run Try.prog w = .ok (.string ⟨(b.take k).toArray⟩) w := fun w => by rw [run_sliceAt_string (h := Try.underlying9)]; exact hsl w
          clear hch hasc hsn hbit i2 hcq
          go_upto_region 7 with fail
          clear hnx
          generalize wr.iterAt I ⟨b.toArray⟩ (k + 1) = wi at *
          have hIlt5 := block_lt i1
          go_wp2_with fail
          refine (HC.out _).mono ?_
          rintro e w6 ⟨rfl, hb6⟩
          go_wp2_with fail
          refine (HCQ.out _).mono ?_
          rintro e w7 ⟨rfl, hb7⟩
          go_wp2_with fail
          have hI7 := (hb7.block _ (by have := hb6.size; omega)).trans ((hb6.block _ hIlt5).trans i1)
          have ip := Lib.hid (iterPos_at hI7)
          go_roundw
          case rel => exact ⟨k + 1, by omega, by rw [hs1.out]; go_num, hI7, (hbi.trans (hb6.mono hbi.size)).trans (hb7.mono (by have := hbi.size; have := hb6.size; omega))⟩
          case measure => rw [hpos.out, ip.out]; omega
      · obtain rfl : k = b.length := by omega
        have hnx := fun ty => Lib.run_next_end_at (P := Try.prog) wr I ⟨b.toArray⟩ b.length ty hIr.out (by simp [ByteArray.size])
        go_wp2_with fail
        go_ret2
        exact ⟨rfl, hbr⟩
end Go.Proofs.Ythlbplmghjaeoaf
