/- Strips: how many lists come before one, by the model. -/
import Derived.Test.YthlbplmghjaeoafHP
import Derived.Test.YthlbplmghjaeoafHK
namespace Go.Proofs.Ythlbplmghjaeoaf
open Go.RowKit

theorem ml_bits {b : List UInt8} (h : mlM b = true) : ∃ t : List Bool, b = t.map sgM := by
  refine ⟨b.map fun c => c == 42, ?_⟩
  rw [List.map_map]
  have hall : ∀ c ∈ b, mlB c = true := by
    rw [mlM] at h
    simp only [Bool.and_eq_true, List.all_eq_true] at h
    exact h.2.2
  have e : b.map (sgM ∘ fun c => c == 42) = b.map id := by
    apply List.map_congr_left
    intro c hc
    have := hall c hc
    unfold mlB at this
    simp at this
    rcases this with e | e <;> rw [e] <;> rfl
  rw [e, List.map_id]
/-- Those that come before, by the place of the first sign that differs. -/
def rnF (s : List UInt8) (t : List Bool) (i : Nat) : Nat := if t.getD i false = true then 0 else rkA s (t.take i)
def rnM (s : List UInt8) (t : List Bool) : Nat := sumN t.length (rnF s t)
theorem rkA_le {s : List UInt8} (h : s.length ≤ 40) (t : List Bool) : rkA s t ≤ 2199023255552 :=
  Nat.le_trans (fitW_total s _) (Nat.le_trans (Nat.pow_le_pow_right (by decide) (show s.length + 1 ≤ 41 by omega)) (by decide))
theorem rn_le {s : List UInt8} (h : s.length ≤ 40) (t : List Bool) : ∀ n, sumN n (rnF s t) ≤ n * 2199023255552
  | 0 => Nat.le_refl _
  | n + 1 => by
    have h1 := rn_le h t n
    have h2 : rnF s t n ≤ 2199023255552 := by
      unfold rnF
      split
      · exact Nat.zero_le _
      · exact rkA_le h _
    rw [sumN]; omega
/-- The rank of a list that fits; 0 for others. -/
def rkV (s b : List UInt8) : Nat := if dfV s b = true then rnM s (b.map fun c => c == 42) else 0
theorem bits_back (t : List Bool) : (t.map sgM).map (fun c => c == 42) = t := by
  rw [List.map_map]
  have : t.map ((fun c => c == 42) ∘ sgM) = t.map id := by
    apply List.map_congr_left
    intro c _
    cases c <;> rfl
  rw [this, List.map_id]

set_option maxRecDepth 100000 in
set_option maxHeartbeats 3200000 in
theorem sRankOfStrip_any (s b : List UInt8) (w : World) (hs : s.length ≤ 1048576) (hb : b.length ≤ 1048576) :
    Calls Try.prog 4 #[.string ⟨s.toArray⟩, .string ⟨b.toArray⟩] w fun e w' => e = .returned (.tuple #[.int .i64 (rkV s b : Nat), .bool (dfV s b)]) ∧ Below w.heap.size w w' := by
  have hbo := fun w => stBoth_any s b w hs hb
  have HV : Hid (dfV s b = (dfB s b && ftM s b)) := rfl
  have HK : Hid (rkV s b = if dfV s b = true then rnM s (b.map fun c => c == 42) else 0) := rfl
  cases h1 : dfB s b with
  | false =>
    rw [h1] at hbo
    have HB := Lib.hid hbo
    have HR : Hid (dfV s b = false) := by rw [Hid, HV.out, h1]; rfl
    have HK2 : Hid (rkV s b = 0) := by rw [Hid, HK.out, HR.out]; rfl
    clear hbo h1
    rw [HR.out, HK2.out]
    go_enter Try.func4, Try.ntmps4
    go_wp2_with fail
    refine (HB.out _).mono ?_
    rintro e w1 ⟨rfl, hb1⟩
    go_wp2_with fail
    go_ret2
    exact ⟨rfl, hb1⟩
  | true =>
    rw [h1] at hbo
    have HB := Lib.hid hbo
    have h2 : stM s = true ∧ mlM b = true ∧ s.length = b.length := by
      rw [dfB] at h1
      simp at h1
      exact h1
    obtain ⟨hg, hml, hlen⟩ := h2
    have hf := fun w => stFits_any s b hg hlen.symm w
    cases h3 : ftM s b with
    | false =>
      rw [h3] at hf
      have HF := Lib.hid hf
      have HR : Hid (dfV s b = false) := by rw [Hid, HV.out, h1, h3]; rfl
      have HK2 : Hid (rkV s b = 0) := by rw [Hid, HK.out, HR.out]; rfl
      clear hbo h1 hf h3 hg hml hlen
      rw [HR.out, HK2.out]
      go_enter Try.func4, Try.ntmps4
      go_wp2_with fail
      refine (HB.out _).mono ?_
      rintro e w1 ⟨rfl, hb1⟩
      go_wp2_with fail
      refine (HF.out _).mono ?_
      rintro e w2 ⟨rfl, hb2⟩
      go_wp2_with fail
      go_ret2
      exact ⟨rfl, hb1.trans (hb2.mono hb1.size)⟩
    | true =>
      rw [h3] at hf
      have HF := Lib.hid hf
      have HR : Hid (dfV s b = true) := by rw [Hid, HV.out, h1, h3]; rfl
      obtain ⟨t, ht⟩ := ml_bits hml
      have HK2 : Hid (rkV s b = sumN t.length (rnF s t)) := by rw [Hid, HK.out, HR.out, if_pos rfl, ht, bits_back]; rfl
      obtain ⟨_, hn40, _⟩ := stM_facts hg
      have htl : b.length = t.length := by rw [ht, List.length_map]
      have hcall : ∀ k, k < b.length → ∀ w, Calls Try.prog 8 #[.string ⟨s.toArray⟩, .string ⟨(b.take k ++ [42]).toArray⟩] w fun e w' => e = .returned (.int .i64 (rkA s (t.take k) : Nat)) ∧ Below w.heap.size w w' := fun k hk w => by
        rw [ht, ← List.map_take, (sg_text _).1]
        exact stAll_any s hg (t.take k ++ [true]) (by simp; omega) w
      have HCALL := Lib.hid hcall
      have hbk : ∀ k (h : k < b.length), b[k] = sgM (t.getD k false) := fun k h => by
        have h' : k < t.length := by omega
        simp [ht, List.getD, h']
      have HBK := Lib.hid hbk
      have HLE := Lib.hid fun k => rkA_le hn40 (t.take k)
      have HSL := Lib.hid (rn_le hn40 t)
      have HTL := Lib.hid htl
      have hb40 : b.length ≤ 40 := by omega
      clear hbo h1 hf h3 hg hml hlen ht hcall hbk htl
      rw [HR.out, HK2.out, ← HTL.out]
      go_enter Try.func4, Try.ntmps4
      go_wp2_with fail
      refine (HB.out _).mono ?_
      rintro e w1 ⟨rfl, hb1⟩
      go_wp2_with fail
      refine (HF.out _).mono ?_
      rintro e w2 ⟨rfl, hb2⟩
      go_wp2_with fail
      have hb02 := hb1.trans (hb2.mono hb1.size)
      have hI : (w2.iter ⟨b.toArray⟩ 0).heap[w2.heap.size]? = some (.stringIter ⟨b.toArray⟩ 0) := World.iter_heap w2 _ _
      have hb4 : Below w.heap.size w (w2.iter ⟨b.toArray⟩ 0) := hb02.trans (((Below.refl _ _).alloc (Nat.le_refl _) _).mono hb02.size)
      have hws := hb02.size
      generalize w2.iter ⟨b.toArray⟩ 0 = w4 at *
      generalize hII : w2.heap.size = I at *
      clear hII hb02 hb1 hb2 HF HB
      go_loopw [6, 7] (fun v _ wr => ∃ k : Nat, k ≤ b.length ∧ v = .int .i64 (sumN k (rnF s t) : Nat) ∧ Hid (wr.heap[I]? = some (.stringIter ⟨b.toArray⟩ k)) ∧ Below w.heap.size w wr) (fun _ _ wr => b.length - wr.iterPos I)
      case atStart => exact ⟨0, Nat.zero_le _, rfl, hI, hb4⟩
      case round =>
        clear hI hb4
        obtain ⟨k, hk, rfl, hIr, hbr⟩ := hrel
        have hIlt := block_lt hIr.out
        by_cases hlt : k < b.length
        · have hch := HBK.out k hlt
          have hasc : b[k].toNat < 128 := by rw [hch]; cases t.getD k false <;> decide
          have hnx := fun ty => Lib.run_next_ascii_at (P := Try.prog) wr I ⟨b.toArray⟩ k ty hIr.out (by simpa [ByteArray.size] using hlt) (by simpa using hasc)
          have hpos := Lib.hid (iterPos_at hIr.out)
          have i1 := iterAt_at hIlt ⟨b.toArray⟩ (k + 1)
          have i2 := iterAt_below wr I ⟨b.toArray⟩ (k + 1)
          have hbi : Below w.heap.size w (wr.iterAt I ⟨b.toArray⟩ (k + 1)) := hbr.trans (i2.mono hws)
          have hsn : Hid (sumN (k + 1) (rnF s t) = sumN k (rnF s t) + rnF s t k) := rfl
          have hle := HSL.out k
          have hls : sumN k (rnF s t) ≤ 87960930222080 := by omega
          clear hle
          generalize hsk : sumN k (rnF s t) = sk at *
          clear hsk
          cases hbit : t.getD k false with
          | true =>
            have h46 : ((b[k].toNat : Int) == 46) = false := by rw [hch, hbit]; rfl
            have hs1 : Hid (sumN (k + 1) (rnF s t) = sk) := by rw [Hid, hsn.out, rnF, hbit]; rfl
            clear hch hasc hsn hbit i2
            go_wp2_with fail
            clear hnx
            generalize wr.iterAt I ⟨b.toArray⟩ (k + 1) = wi at *
            have ip := Lib.hid (iterPos_at i1)
            have I1 := Lib.hid i1
            clear i1
            go_roundw
            case rel => exact ⟨k + 1, by omega, by rw [hs1.out], I1, hbi⟩
            case measure => rw [hpos.out, ip.out]; omega
          | false =>
            have h46 : ((b[k].toNat : Int) == 46) = true := by rw [hch, hbit]; rfl
            have hs1 : Hid (sumN (k + 1) (rnF s t) = sk + rkA s (t.take k)) := by rw [Hid, hsn.out, rnF, hbit]; rfl
            have HC := Lib.hid fun w => HCALL.out k hlt w
            have hal := HLE.out k
            generalize rkA s (t.take k) = A at *
            have hsl : ∀ w, (Instr.slice 9 (.string ⟨b.toArray⟩) none (some (.int .i64 (k : Int))) none).run Try.prog w = .ok (.string ⟨(b.take k).toArray⟩) w := fun w => by
              have hsz : (ByteArray.mk b.toArray).size = b.length := by simp [ByteArray.size]
              rw [run_slice_string_h (ht := Try.underlying9) (h0 := by omega) (h2 := by rw [hsz]; omega)]
              congr 2
              apply ByteArray.ext
              rw [ByteArray.data_extract]
              apply Array.ext'
              rw [Array.toList_extract]
              show (b.drop 0).take (k - 0) = b.take k
              rfl
            have hsl2 : ∀ w, (Instr.sliceAt 9 (.string ⟨b.toArray⟩) none (some (.int .i64 (k : Int))) none).run Try.prog w = .ok (.string ⟨(b.take k).toArray⟩) w := fun w => by rw [run_sliceAt_string (h := Try.underlying9)]; exact hsl w
            clear hch hasc hsn hbit i2
            go_upto_region 6 with fail
            clear hnx
            generalize wr.iterAt I ⟨b.toArray⟩ (k + 1) = wi at *
            have hIlt5 := block_lt i1
            go_wp2_with fail
            refine (HC.out _).mono ?_
            rintro e w6 ⟨rfl, hb6⟩
            go_wp2_with fail
            have hI7 := (hb6.block _ hIlt5).trans i1
            have ip := Lib.hid (iterPos_at hI7)
            go_roundw
            case rel => exact ⟨k + 1, by omega, by rw [hs1.out]; go_num, hI7, hbi.trans (hb6.mono hbi.size)⟩
            case measure => rw [hpos.out, ip.out]; omega
        · obtain rfl : k = b.length := by omega
          have hnx := fun ty => Lib.run_next_end_at (P := Try.prog) wr I ⟨b.toArray⟩ b.length ty hIr.out (by simp [ByteArray.size])
          go_wp2_with fail
          go_ret2
          exact ⟨rfl, hbr⟩
end Go.Proofs.Ythlbplmghjaeoaf
