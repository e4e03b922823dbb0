/- J5, J6, laid as one text. -/
import Derived.Test.YthlbplmghjaeoadGJ2
import Derived.Test.YthlbplmghjaeoadN9
import Derived.Outline

/- Counts by the model: the sum of numbers of the cells of a board. -/
namespace Go.Proofs.Ythlbplmghjaeoad
open Go.RowKit

/-- Signs of a board alone. -/
def Brd2 (cells : List UInt8) : Prop := ∀ c ∈ cells, c = 46 ∨ c = 42
theorem Brd2.asc {cells : List UInt8} (h : Brd2 cells) {k : Nat} (hk : k < cells.length) : cells[k].toNat < 128 := by
  rcases h _ (List.getElem_mem hk) with e | e <;> rw [e] <;> decide
theorem ctB_brd (n m : Nat) : Brd2 (ctB n m) := by
  intro c hc
  obtain ⟨i, _, rfl⟩ := List.mem_map.1 hc
  split
  · exact .inl rfl
  · exact .inr rfl
theorem allM_brd {n : Nat} {mines : Int} {c : List UInt8} (h : c ∈ allM n mines) : Brd2 c := by
  obtain ⟨h1, _⟩ := List.mem_filter.1 h
  obtain ⟨m, _, rfl⟩ := List.mem_map.1 h1
  exact ctB_brd n m

set_option maxRecDepth 100000 in
set_option maxHeartbeats 1600000 in
theorem ctSum_any (W H : Nat) (cells : List UInt8) (hW : 1 ≤ W ∧ W ≤ 8) (hH : H ≤ 8) (hn : cells.length = W * H) (hbd : Brd2 cells) (w : World) :
    Calls Try.prog 53 #[.string ⟨cells.toArray⟩, .int .i64 W] w fun e w' => e = .returned (.int .i64 (sumGo cells W 0 cells.length : Nat)) ∧ Below w.heap.size w w' := by
  have h64 : cells.length ≤ 64 := by rw [hn]; exact Nat.mul_le_mul hW.2 hH
  have HNU := Lib.hid (fun c hc w => boNumber_any W H cells c w hW hH hn hc)
  have HAS := Lib.hid (fun k (hk : k < cells.length) => hbd.asc hk)
  have HSL := Lib.hid (fun m k => sumGo_le cells W m k)
  have HNL := Lib.hid (fun c => numM_le cells W c)
  have HSG : Hid (∀ k (h : k < cells.length), sumGo cells W k (cells.length - k) = if cells[k] = 42 then sumGo cells W (k + 1) (cells.length - (k + 1)) else numM cells W k + sumGo cells W (k + 1) (cells.length - (k + 1))) := by
    intro k h
    have hgd : cells.getD k 0 = cells[k] := by simp [List.getD, h]
    rw [show cells.length - k = (cells.length - (k + 1)) + 1 by omega, sumGo, hgd]
  have hS0 : sumGo cells W 0 cells.length ≤ 64 * 64 := Nat.le_trans (sumGo_le cells W cells.length 0) (Nat.mul_le_mul h64 h64)
  clear hbd hW hH hn
  go_enter Try.func53, Try.ntmps53
  go_wp2_with fail
  have hI : (w.iter ⟨cells.toArray⟩ 0).heap[w.heap.size]? = some (.stringIter ⟨cells.toArray⟩ 0) := World.iter_heap w _ _
  have hbi : Below w.heap.size w (w.iter ⟨cells.toArray⟩ 0) := (Below.refl _ _).alloc (Nat.le_refl _) _
  have hsi : w.heap.size < (w.iter ⟨cells.toArray⟩ 0).heap.size := by simp [World.iter]
  generalize w.iter ⟨cells.toArray⟩ 0 = w4 at *
  generalize hII : w.heap.size = I at *
  have HII := Lib.hid hII
  clear hII
  generalize hTT : sumGo cells W 0 cells.length = T at *
  have HTT := Lib.hid hTT
  clear hTT
  go_loopw [5] (fun s wr => ∃ k a : Nat, k ≤ cells.length ∧ s = .int .i64 a ∧ a ≤ T ∧ Hid (wr.heap[I]? = some (.stringIter ⟨cells.toArray⟩ k)) ∧ Hid (T = a + sumGo cells W k (cells.length - k)) ∧ Below I w4 wr) (fun _ wr => cells.length - wr.iterPos I)
  case atStart => exact ⟨0, 0, Nat.zero_le _, rfl, Nat.zero_le _, hI, by rw [Hid, Nat.zero_add, Nat.sub_zero]; exact HTT.out.symm, Below.refl _ _⟩
  case round =>
    obtain ⟨k, a, hk, rfl, haT, hIr, hR, hb⟩ := hrel
    have hIlt := block_lt hIr.out
    by_cases hlt : k < cells.length
    · have HST := Lib.hid (HSG.out k hlt)
      have hasc := HAS.out k hlt
      have hnx := fun ty => Lib.run_next_ascii_at (P := Try.prog) wr I ⟨cells.toArray⟩ k ty hIr.out (by simpa [ByteArray.size] using hlt) (by simpa using hasc)
      have hpos := Lib.hid (iterPos_at hIr.out)
      have i1 := iterAt_at hIlt ⟨cells.toArray⟩ (k + 1)
      have i2 := iterAt_below wr I ⟨cells.toArray⟩ (k + 1)
      have hnl := HNL.out k
      have HNUk := Lib.hid (fun w => HNU.out k hlt w)
      clear hasc
      by_cases h42 : cells[k] = 42
      · have hd : ((cells[k].toNat : Int) != 42) = false := by simp only [bne, is42]; simp [h42]
        have H42 := Lib.hid h42
        clear h42
        go_wp2_with fail
        clear hnx
        go_roundw
        case rel => exact ⟨k + 1, a, by omega, rfl, haT, i1, by rw [Hid, hR.out, HST.out, if_pos H42.out], hb.trans i2⟩
        case measure => rw [hpos.out, iterPos_at i1]; omega
      · have hd : ((cells[k].toNat : Int) != 42) = true := by simp only [bne, is42]; simp [h42]
        have hT2 : a + numM cells W k ≤ T := by rw [hR.out, HST.out, if_neg h42]; omega
        have HR2 : Hid (T = a + numM cells W k + sumGo cells W (k + 1) (cells.length - (k + 1))) := by rw [Hid, hR.out, HST.out, if_neg h42]; omega
        clear h42
        generalize numM cells W k = nu at *
        go_wp2_with fail
        clear hnx
        generalize wr.iterAt I ⟨cells.toArray⟩ (k + 1) = wi at *
        refine (HNUk.out _).mono ?_
        rintro e w5 ⟨rfl, hb5⟩
        have hIwi := block_lt i1
        have i5 := (hb5.block _ hIwi).trans i1
        have ip := Lib.hid (iterPos_at i5)
        have I5 := Lib.hid i5
        have hb05 := hb.trans (i2.trans (hb5.mono (by omega)))
        clear i1 i5 i2
        go_wp2_with fail
        go_roundw
        case rel => exact ⟨k + 1, a + nu, by omega, by go_num, hT2, I5, HR2, hb05⟩
        case measure => rw [hpos.out, ip.out]; omega
    · obtain rfl : k = cells.length := by omega
      have hnx := fun ty => Lib.run_next_end_at (P := Try.prog) wr I ⟨cells.toArray⟩ cells.length ty hIr.out (by simp [ByteArray.size])
      have HR2 : Hid (T = a) := by rw [Hid, hR.out, Nat.sub_self]; rfl
      clear hR
      go_wp2_with fail
      go_ret
      exact ⟨by rw [HTT.out, HR2.out] <;> rfl, by rw [HII.out]; exact hbi.trans (hb.mono (by omega))⟩
end Go.Proofs.Ythlbplmghjaeoad

/- Counts by the model: boards with no two mines beside each other. -/
namespace Go.Proofs.Ythlbplmghjaeoad
open Go.RowKit

theorem allR_step (p : Nat → Bool) {k n : Nat} (h : k < n) : (List.range' k (n - k)).all p = (p k && (List.range' (k + 1) (n - (k + 1))).all p) := by
  rw [show n - k = (n - (k + 1)) + 1 by omega, List.range'_succ, List.all_cons]
theorem allR_zero (p : Nat → Bool) (n : Nat) : (List.range n).all p = (List.range' 0 (n - 0)).all p := by rw [List.range_eq_range', Nat.sub_zero]
theorem anyR_step (p : Nat → Bool) {k n : Nat} (h : k < n) : (List.range' k (n - k)).any p = (p k || (List.range' (k + 1) (n - (k + 1))).any p) := by
  rw [show n - k = (n - (k + 1)) + 1 by omega, List.range'_succ, List.any_cons]
theorem anyR_zero (p : Nat → Bool) (n : Nat) : (List.range n).any p = (List.range' 0 (n - 0)).any p := by rw [List.range_eq_range', Nat.sub_zero]

/-- Is there no mine beside a mine? -/
def apaB (cells : List UInt8) (W k : Nat) : Bool := !(decide (cells.getD k 0 = 42) && decide (0 < numM cells W k))
def aptB (cells : List UInt8) (W : Nat) : Bool := (List.range cells.length).all (apaB cells W)
def aptM (cells : List UInt8) (W : Nat) : Int := if aptB cells W = true then ((places 42 cells).length : Int) else -1

set_option maxRecDepth 100000 in
set_option maxHeartbeats 1600000 in
theorem ctApart_any (W H : Nat) (cells : List UInt8) (hW : 1 ≤ W ∧ W ≤ 8) (hH : H ≤ 8) (hn : cells.length = W * H) (hbd : Brd2 cells) (w : World) :
    Calls Try.prog 62 #[.string ⟨cells.toArray⟩, .int .i64 W] w fun e w' => e = .returned (.int .i64 (aptM cells W)) ∧ Below w.heap.size w w' := by
  have h64 : cells.length ≤ 64 := by rw [hn]; exact Nat.mul_le_mul hW.2 hH
  have HNU := Lib.hid (fun c hc w => boNumber_any W H cells c w hW hH hn hc)
  have HAS := Lib.hid (fun k (hk : k < cells.length) => hbd.asc hk)
  have HNL := Lib.hid (fun c => numM_le cells W c)
  have HPL := Lib.hid (placesGo_le 42 cells 0)
  have HBM := Lib.hid (fun w => boMines_any cells 42 42 rfl w (by omega))
  have HST := Lib.hid (fun k (h : k < cells.length) => allR_step (apaB cells W) h)
  have HAP : Hid (∀ k (h : k < cells.length), apaB cells W k = !(decide (cells[k] = 42) && decide (0 < numM cells W k))) := by
    intro k h
    have hgd : cells.getD k 0 = cells[k] := by simp [List.getD, h]
    rw [apaB, hgd]
  have HM : Hid (aptM cells W = if (List.range' 0 (cells.length - 0)).all (apaB cells W) = true then ((places 42 cells).length : Int) else -1) := by rw [Hid, aptM, aptB, allR_zero]
  clear hbd hW hH hn
  go_enter Try.func62, Try.ntmps62
  go_wp2_with fail
  have hI : (w.iter ⟨cells.toArray⟩ 0).heap[w.heap.size]? = some (.stringIter ⟨cells.toArray⟩ 0) := World.iter_heap w _ _
  have hbi : Below w.heap.size w (w.iter ⟨cells.toArray⟩ 0) := (Below.refl _ _).alloc (Nat.le_refl _) _
  have hsi : w.heap.size < (w.iter ⟨cells.toArray⟩ 0).heap.size := by simp [World.iter]
  generalize w.iter ⟨cells.toArray⟩ 0 = w4 at *
  generalize hII : w.heap.size = I at *
  have HII := Lib.hid hII
  clear hII
  go_loopw [] (fun wr => ∃ k : Nat, k ≤ cells.length ∧ Hid (wr.heap[I]? = some (.stringIter ⟨cells.toArray⟩ k)) ∧ Hid (aptM cells W = if (List.range' k (cells.length - k)).all (apaB cells W) = true then ((places 42 cells).length : Int) else -1) ∧ Below I w4 wr) (fun wr => cells.length - wr.iterPos I)
  case atStart => exact ⟨0, Nat.zero_le _, hI, HM.out, Below.refl _ _⟩
  case round =>
    obtain ⟨k, hk, hIr, hR, hb⟩ := hrel
    have hIlt := block_lt hIr.out
    by_cases hlt : k < cells.length
    · have hst := HST.out k hlt
      rw [HAP.out k hlt] at hst
      have hasc := HAS.out k hlt
      have hnx := fun ty => Lib.run_next_ascii_at (P := Try.prog) wr I ⟨cells.toArray⟩ k ty hIr.out (by simpa [ByteArray.size] using hlt) (by simpa using hasc)
      have hpos := Lib.hid (iterPos_at hIr.out)
      have i1 := iterAt_at hIlt ⟨cells.toArray⟩ (k + 1)
      have i2 := iterAt_below wr I ⟨cells.toArray⟩ (k + 1)
      have hnl := HNL.out k
      have HNUk := Lib.hid (fun w => HNU.out k hlt w)
      clear hasc
      by_cases h42 : cells[k] = 42
      · have hd : ((cells[k].toNat : Int) == 42) = true := by simp only [is42]; simp [h42]
        by_cases hnu : 0 < numM cells W k
        · have HE : Hid (aptM cells W = -1) := by rw [Hid, hR.out, hst]; simp [h42, hnu]
          clear h42 hst
          generalize numM cells W k = nu at *
          go_wp2_with fail
          clear hnx
          generalize wr.iterAt I ⟨cells.toArray⟩ (k + 1) = wi at *
          refine (HNUk.out _).mono ?_
          rintro e w5 ⟨rfl, hb5⟩
          have hIwi := block_lt i1
          have hb05 := hb.trans (i2.trans (hb5.mono (by omega)))
          clear i1 i2 hb5
          go_wp2_with fail
          go_ret
          exact ⟨by rw [HE.out] <;> rfl, by rw [HII.out]; exact hbi.trans (hb05.mono (by omega))⟩
        · have HR2 : Hid (aptM cells W = if (List.range' (k + 1) (cells.length - (k + 1))).all (apaB cells W) = true then ((places 42 cells).length : Int) else -1) := by
            have e : (List.range' k (cells.length - k)).all (apaB cells W) = (List.range' (k + 1) (cells.length - (k + 1))).all (apaB cells W) := by rw [hst, decide_eq_false hnu, Bool.and_false]; rfl
            rw [Hid, hR.out, e]
          have hnu0 : numM cells W k = 0 := by omega
          rw [hnu0] at HNUk
          clear h42 hst hnu hnu0 hnl
          go_wp2_with fail
          clear hnx
          generalize wr.iterAt I ⟨cells.toArray⟩ (k + 1) = wi at *
          refine (HNUk.out _).mono ?_
          rintro e w5 ⟨rfl, hb5⟩
          have hIwi := block_lt i1
          have i5 := (hb5.block _ hIwi).trans i1
          have ip := Lib.hid (iterPos_at i5)
          have I5 := Lib.hid i5
          have hb05 := hb.trans (i2.trans (hb5.mono (by omega)))
          clear i1 i5 i2
          go_wp2_with fail
          go_roundw
          case rel => exact ⟨k + 1, by omega, I5, HR2, hb05⟩
          case measure => rw [hpos.out, ip.out]; omega
      · have hd : ((cells[k].toNat : Int) == 42) = false := by simp only [is42]; simp [h42]
        have HR2 : Hid (aptM cells W = if (List.range' (k + 1) (cells.length - (k + 1))).all (apaB cells W) = true then ((places 42 cells).length : Int) else -1) := by
          have e : (List.range' k (cells.length - k)).all (apaB cells W) = (List.range' (k + 1) (cells.length - (k + 1))).all (apaB cells W) := by rw [hst, decide_eq_false h42]; rfl
          rw [Hid, hR.out, e]
        clear h42 hst
        go_wp2_with fail
        clear hnx
        go_roundw
        case rel => exact ⟨k + 1, by omega, i1, HR2, hb.trans i2⟩
        case measure => rw [hpos.out, iterPos_at i1]; omega
    · obtain rfl : k = cells.length := by omega
      have hnx := fun ty => Lib.run_next_end_at (P := Try.prog) wr I ⟨cells.toArray⟩ cells.length ty hIr.out (by simp [ByteArray.size])
      have HR2 : Hid (aptM cells W = ((places 42 cells).length : Int)) := by rw [Hid, hR.out, Nat.sub_self]; rfl
      have hpl := HPL.out
      clear hR
      go_wp2_with fail
      refine (HBM.out _).mono ?_
      rintro e w5 ⟨a5, c5, rfl, ho5, hb5⟩
      have hb05 := hb.trans (hb5.mono (by omega))
      clear ho5 hb5
      go_wp2_with fail
      go_ret
      exact ⟨by rw [HR2.out] <;> rfl, by rw [HII.out]; exact hbi.trans (hb05.mono (by omega))⟩

/-- What CountMostApart hands back. -/
def mostA (W H : Nat) : Int := ((W : Int) + 1) / 2 * (((H : Int) + 1) / 2)
def cmB (W H : Nat) (cells : List UInt8) : Bool := decide (aptM cells W = mostA W H)
def cmM (w h : Int) : Nat := if szB w h 12 = true then ((allM (w.toNat * h.toNat) (-1)).filter (cmB w.toNat h.toNat)).length else 0
theorem filt_snoc {p : List UInt8 → Bool} (L : List (List UInt8)) {k : Nat} (hk : k < L.length) : ((L.take (k + 1)).filter p).length = ((L.take k).filter p).length + if p L[k] = true then 1 else 0 := by
  rw [List.take_succ_eq_append_getElem hk, List.filter_append, List.length_append]
  by_cases h : p L[k] = true <;> simp [h]

set_option maxRecDepth 100000 in
set_option maxHeartbeats 1600000 in
theorem sCountMostApart_any (w h : Int) (ws : World) :
    Calls Try.prog 28 #[.int .i64 w, .int .i64 h] ws fun e w' => e = .returned (.tuple #[.int .i64 (cmM w h : Nat), .bool (szB w h 12)]) ∧ Below ws.heap.size ws w' := by
  have h1 := fun wr => ctSize_any w h 12 wr
  rcases sz_case w h 12 with hs | ⟨hs, W, H, rfl, rfl, hW1, hW2, hH1, hH2, hn⟩
  · rw [hs] at h1
    have HM : Hid (cmM w h = 0) := by rw [Hid, cmM, hs]; rfl
    rw [hs]
    have H1 := Lib.hid h1
    clear hs h1
    go_enter Try.func28, Try.ntmps28
    go_wp2_with fail
    refine (H1.out _).mono ?_
    rintro e w1 ⟨rfl, rfl⟩
    go_wp2_with fail
    go_ret2
    exact ⟨by rw [HM.out]; rfl, Below.refl _ _⟩
  · rw [hs] at h1
    have HM : Hid (cmM W H = ((allM (W * H) (-1)).filter (cmB W H)).length) := by rw [Hid, cmM, if_pos hs]; rfl
    rw [hs]
    have H1 := Lib.hid h1
    have hn12 : W * H ≤ 12 := by omega
    have h2 := fun wr => ctAll_any (W * H) (-1) hn12 wr
    rw [Int.natCast_mul] at hn h2
    have H2 := Lib.hid h2
    have a1 : 0 ≤ (W : Int) * H := Int.mul_nonneg (by omega) (by omega)
    obtain ⟨m1, m2⟩ := mulB (a := ((W : Int) + 1) / 2) (b := ((H : Int) + 1) / 2) ⟨by omega, by omega⟩ ⟨by omega, by omega⟩
    have hll := allM_le (W * H) (-1) hn12
    have HAPT := Lib.hid (fun k (hk : k < (allM (W * H) (-1)).length) wr => ctApart_any W H ((allM (W * H) (-1))[k]) ⟨hW1, hW2⟩ hH2 (allM_len (List.getElem_mem hk)) (allM_brd (List.getElem_mem hk)) wr)
    have HFS := Lib.hid (fun k (hk : k < (allM (W * H) (-1)).length) => filt_snoc (p := cmB W H) (allM (W * H) (-1)) hk)
    have HCB : Hid (∀ c, cmB W H c = decide (aptM c W = ((W : Int) + 1) / 2 * (((H : Int) + 1) / 2))) := fun _ => rfl
    clear hs h1 h2
    generalize allM (W * H) (-1) = A at *
    go_enter Try.func28, Try.ntmps28
    go_wp2_with fail
    refine (H1.out _).mono ?_
    rintro e w1 ⟨rfl, rfl⟩
    go_wp2_with fail
    refine (H2.out _).mono ?_
    rintro e w2 ⟨a2, c2, rfl, ho2, hb2⟩
    have hat2 := ho2.at
    clear ho2
    go_wp2_with fail
    go_loopw [6, 18] (fun q i wr => ∃ k a : Nat, k ≤ A.length ∧ i = .int .i64 k ∧ q = .int .i64 a ∧ a ≤ k ∧ Hid (((A.take k).filter (cmB W H)).length = a) ∧ At wr a2 (txts A) ∧ Below ws.heap.size ws wr) (fun _ i _ => A.length - (intOf i).toNat)
    case atStart => exact ⟨0, 0, Nat.zero_le _, rfl, rfl, Nat.le_refl _, rfl, hat2, hb2⟩
    case round =>
      obtain ⟨k, a, hk, rfl, rfl, hak, hR, hat, hb⟩ := hrel
      have hbs := hb.size
      by_cases hlt : k < A.length
      · obtain ⟨g, o, hag, hc⟩ := txts_at hat k hlt
        have HAk := Lib.hid (HAPT.out k hlt)
        have hfs := HFS.out k hlt
        have hcb := HCB.out A[k]
        have HAT := Lib.hid (fun w' (hbw : Below wr.heap.size wr w') => hat.later rfl hbw)
        subst hag
        generalize A[k] = x at *
        generalize aptM x W = v at *
        cases e1 : cmB W H x with
        | true =>
          have hd : (v == ((W : Int) + 1) / 2 * (((H : Int) + 1) / 2)) = true := by rw [hcb] at e1; simpa using e1
          have HF : Hid (((A.take (k + 1)).filter (cmB W H)).length = a + 1) := by rw [Hid, hfs, hR.out, if_pos e1]
          clear e1 hcb hfs hat
          go_wp2_with fail
          refine (HAk.out _).mono ?_
          rintro e w5 ⟨rfl, hb5⟩
          have hat5 := HAT.out _ hb5
          have hb05 := hb.trans (hb5.mono hbs)
          go_wp2_with fail
          go_roundw
          case rel => exact ⟨k + 1, a + 1, by omega, by go_num, by go_num, by omega, HF, hat5, hb05⟩
          case measure => simp [intOf]; omega
        | false =>
          have hd : (v == ((W : Int) + 1) / 2 * (((H : Int) + 1) / 2)) = false := by rw [hcb] at e1; simpa using e1
          have HF : Hid (((A.take (k + 1)).filter (cmB W H)).length = a) := by rw [Hid, hfs, hR.out, e1]; rfl
          clear e1 hcb hfs hat
          go_wp2_with fail
          refine (HAk.out _).mono ?_
          rintro e w5 ⟨rfl, hb5⟩
          have hat5 := HAT.out _ hb5
          have hb05 := hb.trans (hb5.mono hbs)
          go_wp2_with fail
          go_roundw
          case rel => exact ⟨k + 1, a, by omega, by go_num, rfl, by omega, HF, hat5, hb05⟩
          case measure => simp [intOf]; omega
      · obtain rfl : k = A.length := by omega
        have hR2 := hR.out
        rw [List.take_length] at hR2
        have HR2 := Lib.hid hR2
        clear hR hR2 hat
        go_wp2_with fail
        go_ret2
        exact ⟨by rw [HM.out, HR2.out]; rfl, hb⟩
end Go.Proofs.Ythlbplmghjaeoad
