/- Strips: the ways with signs told, by the model. -/
import Derived.Test.YthlbplmghjaeoafHE
import Derived.Test.YthlbplmghjaeoafHF
import Derived.Laws.Rows
import Derived.Laws.Tables
import Derived.Laws.CopyRow
import Derived.Laws.CopyOwn
import Derived.Deep.QuietTactic
import Derived.BigQuiet
namespace Go.Proofs.Ythlbplmghjaeoaf
open Go.RowKit Go.BigFrame

/-- A row of numbers. -/
def rowI (n : Nat) (F : Nat → Nat) : Array Value := ((List.range n).map fun k => Value.int .i64 (F k : Nat)).toArray
theorem rowI_size (n : Nat) (F : Nat → Nat) : (rowI n F).size = n := by simp [rowI]
theorem rowI_get {n : Nat} (F : Nat → Nat) {k : Nat} (h : k < n) : (rowI n F)[k]? = some (.int .i64 (F k : Nat)) := by simp [rowI, h]
theorem rowI_congr {n : Nat} {F G : Nat → Nat} (h : ∀ k, k < n → F k = G k) : rowI n F = rowI n G := by
  rw [rowI, rowI, List.map_congr_left fun k hk => by rw [h k (by simpa using hk)]]
theorem rowI_set {n : Nat} (F : Nat → Nat) {k : Nat} (v : Nat) (hk : k < n) : (rowI n F).setIfInBounds k (.int .i64 (v : Nat)) = rowI n (fun i => if i = k then v else F i) := by
  apply Array.ext'
  simp only [rowI, List.setIfInBounds_toArray]
  apply List.ext_getElem?
  intro i
  rw [List.getElem?_set]
  by_cases hi : i < n
  · by_cases h : k = i
    · subst h; simp [hk]
    · simp [hi, h, Ne.symm h]
  · simp [hi]; omega
/-- The first k bits. -/
def bitK (t : List Bool) (k i : Nat) : Nat := if i < k then (t.getD i false).toNat else 0
theorem bitK_all (t : List Bool) {i : Nat} (h : i < t.length) : bitK t t.length i = (t.getD i false).toNat := by rw [bitK, if_pos h]
theorem bitK_next (t : List Bool) (k i v : Nat) (hv : v = (t.getD k false).toNat) : (if i = k then v else bitK t k i) = bitK t (k + 1) i := by
  unfold bitK
  by_cases h : i = k
  · rw [if_pos h, if_pos (by omega), h, hv]
  · rw [if_neg h]
    by_cases h2 : i < k
    · rw [if_pos h2, if_pos (by omega)]
    · rw [if_neg h2, if_neg (by omega)]
theorem bitK_same (t : List Bool) (k i : Nat) (hv : (t.getD k false).toNat = 0) : bitK t k i = bitK t (k + 1) i := by
  unfold bitK
  by_cases h2 : i < k
  · rw [if_pos h2, if_pos (by omega)]
  · rw [if_neg h2]
    by_cases h : i = k
    · rw [if_pos (by omega), h, hv]
    · rw [if_neg (by omega)]
/-- What a pair of first signs comes to. -/
def fpT (s : List UInt8) (K q : Nat) : Nat := if canM s 0 false (decide (q / 2 = 1)) (decide (q % 2 = 1)) = true then enT s 0 q K else 0
theorem fpT_no {s : List UInt8} {h x K : Nat} (hh : h < 2) (hx : x < 2) (hc : canM s 0 false (decide (h = 1)) (decide (x = 1)) = false) : fpT s K (2 * h + x) = 0 := by
  rw [fpT, show (2 * h + x) / 2 = h by omega, show (2 * h + x) % 2 = x by omega, hc]; rfl
theorem fpT_yes {s : List UInt8} {h x K : Nat} (hh : h < 2) (hx : x < 2) (hc : canM s 0 false (decide (h = 1)) (decide (x = 1)) = true) : fpT s K (2 * h + x) = enT s 0 (2 * h + x) K := by
  rw [fpT, show (2 * h + x) / 2 = h by omega, show (2 * h + x) % 2 = x by omega, hc]; rfl
theorem mem_range {w : World} {g n : Nat} {F : Nat → Nat → Nat → Nat} {t : TypeId} {fr : Nat × Nat} (h : w.heap[g]? = some (.cells (memA n F) t fr)) {r q : Nat} (hr : r < n) (hq : q < 4) : w.rangeAt g (r * 164 + q * 41) (wvL (F r q)) := fun j v hv => by
  have hj : j < 41 := by
    have := (List.getElem?_eq_some_iff.1 hv).1
    simpa [wvL] using this
  rw [cell_of_block h, memA_get F hr hq hj]
  simp [wvL, hj] at hv
  rw [hv]
/-- The first k numbers are added. -/
def addK (B A : Nat → Nat) (k K : Nat) : Nat := if K < k then B K + A K else B K
theorem addK_zero (B A : Nat → Nat) (K : Nat) : addK B A 0 K = B K := by rw [addK, if_neg (by omega)]
theorem addK_all (B A : Nat → Nat) {K : Nat} (h : K < 41) : addK B A 41 K = B K + A K := by rw [addK, if_pos h]
theorem addK_next (B A : Nat → Nat) {k : Nat} (h : k < 41) : (wvA (addK B A k)).setIfInBounds k (.int .i64 ((B k + A k : Nat) : Int)) = wvA (addK B A (k + 1)) := by
  rw [wvA_set _ _ _ h]
  refine wvA_congr fun j _ => ?_
  unfold addK
  by_cases h1 : j = k
  · rw [if_pos h1, if_pos (by omega), h1]
  · rw [if_neg h1]
    by_cases h2 : j < k
    · rw [if_pos h2, if_pos (by omega)]
    · rw [if_neg h2, if_neg (by omega)]
theorem fp_le {s : List UInt8} (hs : s.length ≤ 40) (K : Nat) : ∀ q, q ≤ 4 → sumN q (fpT s K) ≤ q * 1099511627776
  | 0, _ => Nat.le_refl _
  | q + 1, h => by
    have h1 := fp_le hs K q (by omega)
    have h2 : fpT s K q ≤ 1099511627776 := by
      unfold fpT
      split
      · exact enT_le hs _ _ _
      · exact Nat.zero_le _
    rw [sumN]; omega
/-- What the last sign and the one behind it come to, by what is behind. -/
def lqT (s : List UInt8) (t : List Bool) (a K n : Nat) : Nat := lsT s t a K (decide (n = 1))
theorem lq_le {s : List UInt8} (hs : s.length ≤ 40) (t : List Bool) (a K : Nat) : ∀ n, n ≤ 2 → sumN n (lqT s t a K) ≤ 4398046511104 := by
  have h1 : ∀ n, lqT s t a K n ≤ 1099511627776 := by
    intro n
    unfold lqT lsT
    split
    · unfold shiftF
      split
      · exact Nat.le_trans (endS_le _ _ _ _ _) (Nat.le_trans (Nat.pow_le_pow_right (by decide) (show s.length - 1 - a ≤ 40 by omega)) (by decide))
      · exact Nat.zero_le _
    · exact Nat.zero_le _
  intro n hn
  have h2 := h1 0
  have h3 := h1 1
  match n, hn with
  | 0, _ => exact Nat.zero_le _
  | 1, _ => simp only [sumN]; omega
  | 2, _ => simp only [sumN]; omega
/-- The first k numbers are added, moved up by C. -/
def addS (B A : Nat → Nat) (C k K : Nat) : Nat := if C ≤ K ∧ K < C + k then B K + A (K - C) else B K
theorem addS_zero (B A : Nat → Nat) (C K : Nat) : addS B A C 0 K = B K := by rw [addS, if_neg (by omega)]
theorem addS_all (B A : Nat → Nat) (C : Nat) {K k : Nat} (h : K < 41) (hk : 41 ≤ C + k) : addS B A C k K = B K + shiftF A C K := by
  unfold addS shiftF
  by_cases h1 : C ≤ K
  · rw [if_pos ⟨h1, by omega⟩, if_pos h1]
  · rw [if_neg (by omega), if_neg h1, Nat.add_zero]
theorem addS_skip (B A : Nat → Nat) (C : Nat) {k : Nat} (h : 41 ≤ C + k) : wvA (addS B A C k) = wvA (addS B A C (k + 1)) := wvA_congr fun K hK => by
  unfold addS
  by_cases h1 : C ≤ K ∧ K < C + k
  · rw [if_pos h1, if_pos (by omega)]
  · rw [if_neg h1, if_neg (by omega)]
theorem addS_next (B A : Nat → Nat) (C : Nat) {k : Nat} (h : C + k < 41) : (wvA (addS B A C k)).setIfInBounds (C + k) (.int .i64 ((B (C + k) + A k : Nat) : Int)) = wvA (addS B A C (k + 1)) := by
  rw [wvA_set _ _ _ h]
  refine wvA_congr fun j _ => ?_
  unfold addS
  by_cases h1 : j = C + k
  · rw [if_pos h1, if_pos (by omega), h1, show C + k - C = k by omega]
  · rw [if_neg h1]
    by_cases h2 : C ≤ j ∧ j < C + k
    · rw [if_pos h2, if_pos (by omega)]
    · rw [if_neg h2, if_neg (by omega)]
theorem decBit (b : Bool) : decide (b.toNat = 1) = b := by cases b <;> rfl
theorem wpQuiet_row {P : Program} {ops : Array Oper} {C : World → Prop} {Q : Act → Prop} {a : Act} {o : Oper} {rest : List Oper} (hw : Region.wanted o (yielded ops a.tmps) = true) (ty : TypeId) (x : Operand) (ho : o.op = .load ty x)
    (b off : Nat) (hx : a.eval x = .pointer (some ⟨b, off, none⟩)) (cs : List Value) (d : TypeDesc) (hC : ∀ w, C w → w.rangeAt b off cs) (hu : P.underlying ty = some d) (hd : d.isRow = true) (hi : (P.info? ty).map (·.size) = some cs.length)
    (h : wpQuiet P ops C Q rest (a.put o.dst (.agg cs.toArray))) : wpQuiet P ops C Q (o :: rest) a :=
  BigFrame.wpQuiet_want hw fun K hK => ⟨.agg cs.toArray, fun w hw' => by
    have e : (execOp a.eval o).run P w = .ok (.value (.agg cs.toArray)) w := by
      unfold execOp
      simp only [ho, hx, Instr.loadAt, Instr.sureAddr, Sem.run_bind, Sem.run_pure, Result.andThen_ok, run_loadVar_mid w b off ty cs d (hC w hw') hu hd hi]
    unfold Oper.quietAt
    rw [e]
    exact ⟨rfl, rfl⟩, hK _ h⟩
theorem wvZero61 (w : World) : (zeroValue 28).run Try.prog w = .ok (.agg (wvA fun _ => 0)) w := by kernel_rfl
theorem wvInfo61 : (Try.prog.info? 28).map (·.size) = some 41 := by kernel_rfl
theorem wvInfoA61 (f : Nat → Nat) : (Try.prog.info? 28).map (·.size) = some (wvA f).size := by rw [wvA_size]; exact wvInfo61
theorem makeI (n : Nat) (hn : n ≤ 1000) (w : World) : (Instr.makeSlice 53 (.int .i64 (n : Int)) (.int .i64 (n : Int))).run Try.prog w = .ok (.slice (some ⟨w.heap.size, 0, none⟩) n n) (w.alloc (.cells (rowI n (fun _ => 0)) 3)) := by
  obtain ⟨i, hi, hz, hs, hb⟩ := elemInt.info
  rw [run_make w 53 3 i (.int .i64 0) Try.underlying53 hi hz .i64 .i64 (n : Int) (n : Int) (by omega) (by omega) (by rw [hb]; omega) (by omega), hs]
  rw [show ((n : Int)).toNat = n from rfl, Nat.mul_one]
  have e : madeCells (Value.int .i64 0).cells n = rowI n (fun _ => 0) := by
    apply Array.ext
    · rw [size_madeCells, rowI_size]
    · intro i h1 h2
      simp [madeCells, rowI, Value.cells, Nat.mod_one]
  rw [e]
theorem idx61 (arr : Array Value) (k : Nat) (v : Value) (hk : k < 41) (h : arr[k]? = some v) (w : World) : (Instr.index 28 (.agg arr) (.int .i64 k)).run Try.prog w = .ok v w := by
  have h1 : (0 : Int) ≤ (k : Int) ∧ (k : Int) < 41 := by omega
  simp [Instr.index, asIntOf, run_underlying Try.underlying28, Try.sizeOf3, part, Try.isAgg3, h, h1]
  intro h2; omega
theorem idxStrG (l : List UInt8) (k : Nat) (hk : k < l.length) (w : World) : (Instr.index 9 (.string ⟨l.toArray⟩) (.int .i64 k)).run Try.prog w = .ok (.int .u8 (l[k].toNat : Int)) w := by
  rw [run_index_string _ _ _ _ _ Try.underlying9]
  have h1 : (0 : Int) ≤ (k : Int) ∧ (k : Int) < ((ByteArray.mk l.toArray).size : Int) := by
    have e : (ByteArray.mk l.toArray).size = l.length := by simp [ByteArray.size]
    rw [e]; omega
  rw [dif_pos h1]
  rfl
theorem iaI (g L k : Nat) (hk : k < L) (w : World) : (Instr.indexAt 53 (.slice (some ⟨g, 0, none⟩) L L) (.int .i64 (k : Int))).run Try.prog w = .ok (.pointer (some ⟨g, k, none⟩)) w := by
  simp [Instr.indexAt, run_underlying Try.underlying53, Instr.sureAddr, asIntOf, Try.sizeOf3, hk, Addr.add_lit]
set_option maxRecDepth 100000 in
set_option maxHeartbeats 6400000 in
theorem stFrom_any (s : List UInt8) (hg : stM s = true) (t : List Bool) (ht : t.length ≤ s.length) (w : World) :
    Calls Try.prog 15 #[.string ⟨s.toArray⟩, .string ⟨(t.map sgM).toArray⟩] w fun e w' => e = .returned (.agg (wvA (fitW s (t.map sgM)))) ∧ Below w.heap.size w w' := by
  obtain ⟨hn1, hn40, hst⟩ := stM_facts hg
  have hz := wvZero61
  have hends := fun w => stEnds_any s hg w
  have HEN := Lib.hid hends
  have hlen : (t.map sgM).length = t.length := List.length_map ..
  have hmk := fun w => makeI t.length (by omega) w
  have hasc : ∀ k (h : k < (t.map sgM).length), (t.map sgM)[k] = sgM (t.getD k false) := fun k h => by
    rw [hlen] at h
    simp [List.getD, h]
  have HASC := Lib.hid hasc
  clear hends hasc
  go_enter Try.func15, Try.ntmps15
  go_wp2_with fail
  obtain ⟨w2, hw2⟩ : ∃ w2, w2 = (w.alloc (.cells (wvA fun _ => 0) 28)).alloc (.cells (wvA fun _ => 0) 28) := ⟨_, rfl⟩
  obtain ⟨hb0, hB0, hB1, hs2⟩ := alloc2 w _ _ hw2
  rw [← hw2]
  clear hw2
  refine (HEN.out _).mono ?_
  rintro e w3 ⟨rfl, hE3, hb3⟩
  go_wp2_with fail
  obtain ⟨w5, hw5⟩ : ∃ w5, w5 = (w3.alloc (.cells (rowI t.length (fun _ => 0)) 3)).alloc (.stringIter ⟨(t.map sgM).toArray⟩ 0) := ⟨_, rfl⟩
  obtain ⟨hb5, hS5, hI5, hs5⟩ := alloc2 w3 _ _ hw5
  rw [show (w3.alloc (.cells (rowI t.length (fun _ => 0)) 3)).iter ⟨(t.map sgM).toArray⟩ 0 = w5 from hw5.symm]
  clear hw5 hmk
  have hB0' := (hb3.block _ (by omega)).trans hB0
  have hB1' := (hb3.block _ (by omega)).trans hB1
  rw [hs2] at hE3
  have hb03 : Below w.heap.size w w3 := hb0.trans (hb3.mono (by omega))
  have hE3l := block_lt hE3
  have HB0 := Lib.hid hB0'
  have HB1 := Lib.hid hB1'
  have HE3 := Lib.hid hE3
  have hS5' : Hid (w5.heap[w3.heap.size]? = some (.cells (rowI t.length (bitK t 0)) 3 (0, 0))) := by
    rw [Hid, rowI_congr (F := bitK t 0) (G := fun _ => 0) (fun k _ => by rw [bitK, if_neg (by omega)])]
    exact hS5
  have HI5 := Lib.hid hI5
  have HS2 := Lib.hid hs2
  generalize hsB : w3.heap.size = sB at *
  have HSB := Lib.hid hsB
  clear hB0 hB1 hB0' hB1' hE3 hS5 hI5 hs2 hs5 hb0 hb3 hsB
  go_loopw [9, 10] (fun v _ wr => ∃ k : Nat, k ≤ t.length ∧ v = .int .i64 (cntF (t.take k) : Nat) ∧ Hid (wr.heap[sB + 1]? = some (.stringIter ⟨(t.map sgM).toArray⟩ k)) ∧ Hid (wr.heap[sB]? = some (.cells (rowI t.length (bitK t k)) 3 (0, 0))) ∧ Below sB w3 wr) (fun _ _ wr => t.length - wr.iterPos (sB + 1))
  case atStart => exact ⟨0, Nat.zero_le _, rfl, HI5, hS5', hb5⟩
  case round =>
    clear HI5 hS5' hb5
    obtain ⟨k, hk, rfl, hIr, hSr, hb⟩ := hrel
    have hIlt := block_lt hIr.out
    by_cases hlt : k < t.length
    · have hltm : k < (t.map sgM).length := by rw [hlen]; exact hlt
      have hch := HASC.out k hltm
      have hasc : (t.map sgM)[k].toNat < 128 := by rw [hch]; cases t.getD k false <;> decide
      have hnx := fun ty => Lib.run_next_ascii_at (P := Try.prog) wr (sB + 1) ⟨(t.map sgM).toArray⟩ k ty hIr.out (by simpa [ByteArray.size] using hlt) (by simpa using hasc)
      have hpos := Lib.hid (iterPos_at hIr.out)
      have i1 := iterAt_at hIlt ⟨(t.map sgM).toArray⟩ (k + 1)
      have i2 := iterAt_below wr (sB + 1) ⟨(t.map sgM).toArray⟩ (k + 1)
      have hct := Lib.hid (cntF_take t hlt)
      have hcl := cntF_le (t.take k)
      have hcl2 : (t.take k).length ≤ k := List.length_take_le _ _
      have hix := fun w => idxStrG (t.map sgM) k hltm w
      rw [hch] at hix
      have hSw := (i2.block sB (by omega)).trans hSr.out
      cases hbit : t.getD k false with
      | true =>
        rw [hbit] at hix
        rw [show ((sgM true).toNat : Int) = 42 from rfl] at hix
        have hcell := cell_of_block hSw k
        rw [rowI_get _ hlt] at hcell
        have hfr := frozen_of_block hSw k
        have hset := block_set hSw k (.int .i64 1)
        rw [show (Value.int .i64 1) = .int .i64 ((1 : Nat) : Int) from rfl, rowI_set _ _ hlt, rowI_congr (G := bitK t (k + 1)) (fun i _ => bitK_next t k i 1 (by rw [hbit]; rfl))] at hset
        have HSET := Lib.hid hset
        have hct1 : Hid (cntF (t.take (k + 1)) = cntF (t.take k) + 1) := by rw [Hid, hct.out, hbit]; rfl
        clear hset hbit hch hasc hct
        go_wp2_with fail
        clear hnx
        have ip := Lib.hid (iterPos_at (show ((wr.iterAt (sB + 1) ⟨(t.map sgM).toArray⟩ (k + 1)).setCell ⟨sB, k, none⟩ (.int .i64 1)).heap[sB + 1]? = _ from (awayH (by omega) _ _).trans i1))
        go_roundw
        case rel => exact ⟨k + 1, by omega, by rw [hct1.out]; go_num, (awayH (by omega) _ _).trans i1, HSET.out, (hb.trans (i2.mono (by omega))).trans (Below.set _ _)⟩
        case measure => rw [hpos.out, ip.out]; omega
      | false =>
        rw [hbit] at hix
        rw [show ((sgM false).toNat : Int) = 46 from rfl] at hix
        have hset := hSw
        rw [rowI_congr (G := bitK t (k + 1)) (fun i _ => bitK_same t k i (by rw [hbit]; rfl))] at hset
        have HSET := Lib.hid hset
        have hct1 : Hid (cntF (t.take (k + 1)) = cntF (t.take k)) := by rw [Hid, hct.out, hbit]; rfl
        clear hset hbit hch hasc hct
        go_wp2_with fail
        clear hnx
        have ip := Lib.hid (iterPos_at i1)
        go_roundw
        case rel => exact ⟨k + 1, by omega, by rw [hct1.out], i1, HSET.out, hb.trans (i2.mono (by omega))⟩
        case measure => rw [hpos.out, ip.out]; omega
    · obtain rfl : k = t.length := by omega
      have hnx := fun ty => Lib.run_next_end_at (P := Try.prog) wr (sB + 1) ⟨(t.map sgM).toArray⟩ t.length ty hIr.out (by simp [ByteArray.size])
      rw [List.take_length]
      go_wp2_with fail
      clear hnx
      have hSa := hSr.out
      rw [rowI_congr (G := fun i => (t.getD i false).toNat) (fun i hi => bitK_all t hi)] at hSa
      have HSa := Lib.hid hSa
      have hRa := (hb.block _ (by omega)).trans HB0.out
      have hOa := (hb.block _ (by omega)).trans HB1.out
      have hEa := (hb.block _ (by omega)).trans HE3.out
      have HRa := Lib.hid hRa
      have HOa := Lib.hid hOa
      have HEa := Lib.hid hEa
      have hba : Below w.heap.size w wr := hb03.trans (hb.mono (by have := HSB.out; omega))
      have hsal := block_lt HSa.out
      clear hSr hSa hRa hOa hEa hIr hb HB0 HB1 HE3 hIlt
      go_loopw [11] (fun v wi => ∃ i : Nat, i ≤ t.length ∧ v = .int .i64 i ∧ Hid (∀ j, j < i → ckT s t j = true) ∧ Below wr.heap.size wr wi) (fun v _ => t.length - (intOf v).toNat)
      case atStart => exact ⟨0, Nat.zero_le _, rfl, Lib.hid (fun j hj => absurd hj (by omega)), Below.refl _ _⟩
      case round =>
        obtain ⟨i, hi, rfl, HCK, hbi⟩ := hrel
        by_cases hi2 : i + 1 < t.length
        · have hSi := (hbi.block _ hsal).trans HSa.out
          have hc1 := cell_of_block hSi i
          have hc2 := cell_of_block hSi (i + 1)
          rw [rowI_get _ (by omega)] at hc1 hc2
          have hiz : (i : Int) + 1 < (t.length : Int) := by omega
          have hcan0 := fun w => (stCan_any s hst i (bfT t i) (t.getD i false) (t.getD (i + 1) false) w (by omega) hn40).mono fun e w' ⟨h1, h2⟩ => (⟨h1, h2.symm⟩ : e = Ending.returned (.bool (canM s i (bfT t i) (t.getD i false) (t.getD (i + 1) false))) ∧ w' = w)
          rw [show canM s i (bfT t i) (t.getD i false) (t.getD (i + 1) false) = ckT s t i from rfl] at hcan0
          have HBAD := Lib.hid fun hb => fitW_bad s t ht (frc_bad hst t ht i hi2 HCK.out hb)
          have hw1 : IntKind.i64.wrap ((i : Int) + 1) = (i : Int) + 1 := IntWalk.i64_in _ (by omega)
          generalize (t.getD i false).toNat = b1 at *
          generalize (t.getD (i + 1) false).toNat = b2 at *
          cases hck : ckT s t i with
          | true =>
            rw [hck] at hcan0
            have HCAN := Lib.hid hcan0
            have HCK2 : Hid (∀ j, j < i + 1 → ckT s t j = true) := fun j hj => by
              by_cases e : j = i
              · rw [e]; exact hck
              · exact HCK.out j (by omega)
            clear hcan0 hck
            by_cases hi0 : i = 0
            · have hz0 : ¬ (0 : Int) < (i : Int) := by omega
              have hbf : bfT t i = false := by rw [hi0]; rfl
              rw [hbf, show ((false.toNat : Nat) : Int) = 0 from rfl] at HCAN
              clear hbf hi0
              go_upto_region 18 with fail
              go_quiet ((go_at_call 28; exact Calls.quiet_of_same (HCAN.out _)))
              have hbi2 := below_drewN hbi nq
              go_wp2_with fail
              go_roundw
              case rel => exact ⟨i + 1, by omega, by go_num, HCK2, hbi2⟩
              case measure => simp [intOf]; omega
            · have hz0 : (0 : Int) < (i : Int) := by omega
              obtain ⟨p, hp⟩ : ∃ p, p + 1 = i := ⟨i - 1, by omega⟩
              have hbf : bfT t i = t.getD p false := by rw [← hp]; simp [bfT]
              have hc0 := cell_of_block hSi p
              rw [rowI_get _ (by omega)] at hc0
              rw [hbf] at HCAN
              have hsub : (i : Int) - 1 = (p : Int) := by omega
              have hpl : p < t.length := by omega
              have HP := Lib.hid hp
              clear hbf hi0 hp
              generalize (t.getD p false).toNat = b0 at *
              go_upto_region 18 with fail
              go_quiet ((go_at_call 28; exact Calls.quiet_of_same (HCAN.out _)))
              have hbi2 := below_drewN hbi nq
              go_wp2_with fail
              go_roundw
              case rel => exact ⟨i + 1, by omega, by go_num, HCK2, hbi2⟩
              case measure => simp [intOf]; omega
          | false =>
            rw [hck] at hcan0
            have HCAN := Lib.hid hcan0
            have HZ := Lib.hid (HBAD.out hck)
            clear hcan0 hck
            by_cases hi0 : i = 0
            · have hz0 : ¬ (0 : Int) < (i : Int) := by omega
              have hbf : bfT t i = false := by rw [hi0]; rfl
              rw [hbf, show ((false.toNat : Nat) : Int) = 0 from rfl] at HCAN
              clear hbf hi0
              go_upto_region 18 with fail
              go_quiet ((go_at_call 28; exact Calls.quiet_of_same (HCAN.out _)))
              have hbi2 := below_drewN hbi nq
              have hOz := (hbi2.block _ (block_lt HOa.out)).trans HOa.out
              have hRz := (hbi2.block _ (block_lt HRa.out)).trans HRa.out
              have hbz := hba.trans (hbi2.mono hba.size)
              generalize wr.drewN nq = wz at *
              go_wp2_with (first
                | (refine wpList_load_row rfl _ _ rfl (w.heap.size + 1) rfl 28 (wvA fun _ => 0) (0, 0) _ hOz Try.underlying28 rfl (wvInfoA61 _) ?_)
                | (refine wpList_store_row rfl _ _ _ rfl (w.heap.size) (wvA fun _ => 0) rfl rfl 28 _ hRz (wvInfoA61 _) (by simp only [wvA_size]) (wvA_one _) ?_))
              have hlv := run_loadVar_row (P := Try.prog) (wz.setRow w.heap.size (wvA fun _ => 0)) w.heap.size 28 28 (wvA fun _ => 0) (0, 0) _ (setRow_heap wz _ _ _ _ _ hRz) Try.underlying28 rfl (wvInfoA61 _)
              show bodyPost Try.prog Try.f15 (fun e w' => e = .returned (.agg (wvA (fitW s (t.map sgM)))) ∧ Below w.heap.size w w') Exit.ret _ _
              refine bodyPost_ret (v := .agg (wvA fun _ => 0)) ?_ rfl ⟨by rw [wvA_congr (f := fitW s (t.map sgM)) (fun k _ => HZ.out k)], below_setRow hbz (Nat.le_refl _) _⟩
              simp [results, Try.results15, asAddr, Act.put, hlv]
            · have hz0 : (0 : Int) < (i : Int) := by omega
              obtain ⟨p, hp⟩ : ∃ p, p + 1 = i := ⟨i - 1, by omega⟩
              have hbf : bfT t i = t.getD p false := by rw [← hp]; simp [bfT]
              have hc0 := cell_of_block hSi p
              rw [rowI_get _ (by omega)] at hc0
              rw [hbf] at HCAN
              have hsub : (i : Int) - 1 = (p : Int) := by omega
              have hpl : p < t.length := by omega
              have HP := Lib.hid hp
              clear hbf hi0 hp
              generalize (t.getD p false).toNat = b0 at *
              go_upto_region 18 with fail
              go_quiet ((go_at_call 28; exact Calls.quiet_of_same (HCAN.out _)))
              have hbi2 := below_drewN hbi nq
              have hOz := (hbi2.block _ (block_lt HOa.out)).trans HOa.out
              have hRz := (hbi2.block _ (block_lt HRa.out)).trans HRa.out
              have hbz := hba.trans (hbi2.mono hba.size)
              generalize wr.drewN nq = wz at *
              go_wp2_with (first
                | (refine wpList_load_row rfl _ _ rfl (w.heap.size + 1) rfl 28 (wvA fun _ => 0) (0, 0) _ hOz Try.underlying28 rfl (wvInfoA61 _) ?_)
                | (refine wpList_store_row rfl _ _ _ rfl (w.heap.size) (wvA fun _ => 0) rfl rfl 28 _ hRz (wvInfoA61 _) (by simp only [wvA_size]) (wvA_one _) ?_))
              have hlv := run_loadVar_row (P := Try.prog) (wz.setRow w.heap.size (wvA fun _ => 0)) w.heap.size 28 28 (wvA fun _ => 0) (0, 0) _ (setRow_heap wz _ _ _ _ _ hRz) Try.underlying28 rfl (wvInfoA61 _)
              show bodyPost Try.prog Try.f15 (fun e w' => e = .returned (.agg (wvA (fitW s (t.map sgM)))) ∧ Below w.heap.size w w') Exit.ret _ _
              refine bodyPost_ret (v := .agg (wvA fun _ => 0)) ?_ rfl ⟨by rw [wvA_congr (f := fitW s (t.map sgM)) (fun k _ => HZ.out k)], below_setRow hbz (Nat.le_refl _) _⟩
              simp [results, Try.results15, asAddr, Act.put, hlv]
        · have hSi := Lib.hid ((hbi.block _ hsal).trans HSa.out)
          have hOi := Lib.hid ((hbi.block _ (block_lt HOa.out)).trans HOa.out)
          have hRi := Lib.hid ((hbi.block _ (block_lt HRa.out)).trans HRa.out)
          have hEi := Lib.hid ((hbi.block _ (block_lt HEa.out)).trans HEa.out)
          have hbw := hba.trans (hbi.mono hba.size)
          have hgl := block_lt hEi.out
          have hiz : ¬ ((i : Int) + 1 < (t.length : Int)) := by omega
          clear HSa HOa HRa HEa hbi
          by_cases h0 : t.length = 0
          · have hFF := fun K => fitW_first hst hn1 K
            have ht0 : t = [] := List.length_eq_zero_iff.1 h0
            have hF4 : Hid (∀ K, sumN 4 (fpT s K) = fitW s (t.map sgM) K) := fun K => by
              rw [ht0]
              show _ = fitW s [] K
              rw [hFF K]
              simp only [sumN, fpT, enT, Nat.sub_zero]
              simp only [Nat.reduceDiv, Nat.reduceMod]
              simp
              omega
            have heq0 : ((t.length : Int) == 0) = true := by rw [h0]; rfl
            have hCK0 := Lib.hid fun h x w => stCan_any s hst 0 false h x w (by omega) hn40
            clear hFF ht0 h0
            go_wp2_with fail
            go_loopw [13] (fun v wi => ∃ h : Nat, h ≤ 2 ∧ v = .int .i64 h ∧ Hid (wi.heap[w.heap.size + 1]? = some (.cells (wvA fun K => sumN (2 * h) (fpT s K)) 28 (0, 0))) ∧ Hid (wi.heap[w.heap.size]? = some (.cells (wvA fun _ => 0) 28 (0, 0))) ∧ Hid (wi.heap[w.heap.size + 2]? = some (.cells (memA s.length (rwT s 0)) 55 (0, 0))) ∧ Below w.heap.size w wi) (fun v _ => 2 - (intOf v).toNat)
            case atStart => exact ⟨0, by omega, rfl, hOi.out, hRi.out, hEi.out, hbw⟩
            case round =>
              clear hOi hRi hEi hbw hSi
              obtain ⟨h, hh, rfl, HO, HR, HE, hbw⟩ := hrel
              by_cases hh2 : h < 2
              · have hhz : (h : Int) < 2 := by omega
                go_wp2_with fail
                go_loopw [14] (fun v wi => ∃ x : Nat, x ≤ 2 ∧ v = .int .i64 x ∧ Hid (wi.heap[w.heap.size + 1]? = some (.cells (wvA fun K => sumN (2 * h + x) (fpT s K)) 28 (0, 0))) ∧ Hid (wi.heap[w.heap.size]? = some (.cells (wvA fun _ => 0) 28 (0, 0))) ∧ Hid (wi.heap[w.heap.size + 2]? = some (.cells (memA s.length (rwT s 0)) 55 (0, 0))) ∧ Below w.heap.size w wi) (fun v _ => 2 - (intOf v).toNat)
                case atStart => exact ⟨0, by omega, rfl, HO.out, HR.out, HE.out, hbw⟩
                case round =>
                  clear HO HR HE hbw
                  obtain ⟨x, hx, rfl, HO, HR, HE, hbw⟩ := hrel
                  by_cases hx2 : x < 2
                  · have hxz : (x : Int) < 2 := by omega
                    have hcan := fun w => hCK0.out (decide (h = 1)) (decide (x = 1)) w
                    rw [bitN hh2, bitN hx2, show ((false.toNat : Nat) : Int) = 0 from rfl, show (((0 : Nat)) : Int) = 0 from rfl] at hcan
                    cases hcc : canM s 0 false (decide (h = 1)) (decide (x = 1)) with
                    | false =>
                      rw [hcc] at hcan
                      have HCAN := Lib.hid hcan
                      have hO2 := HO.out
                      rw [wvA_congr (g := fun K => sumN (2 * h + (x + 1)) (fpT s K)) (fun K _ => by rw [show 2 * h + (x + 1) = 2 * h + x + 1 by omega, sumN, fpT_no hh2 hx2 hcc, Nat.add_zero])] at hO2
                      have HO2 := Lib.hid hO2
                      clear hcan hcc hO2 HO
                      go_wp2_with fail
                      refine (HCAN.out _).mono ?_
                      rintro e w6 ⟨rfl, rfl⟩
                      go_wp2_with fail
                      go_roundw
                      case rel => exact ⟨x + 1, by omega, by go_num, HO2.out, HR.out, HE.out, hbw⟩
                      case measure => simp [intOf]; omega
                    | true =>
                      rw [hcc] at hcan
                      have HCAN := Lib.hid hcan
                      have hfe := Lib.hid fun K => fpT_yes (K := K) hh2 hx2 hcc
                      clear hcan hcc
                      go_wp2_with fail
                      refine (HCAN.out _).mono ?_
                      rintro e w6 ⟨rfl, rfl⟩
                      have hrg := mem_range HE.out (show 0 < s.length by omega) (show 2 * h + x < 4 by omega)
                      rw [show (0 : Nat) * 164 + (2 * h + x) * 41 = (2 * h + x) * 41 by omega] at hrg
                      go_upto_region 28 with fail
                      go_wp2_with (first | (refine wpList_load_mid rfl 28 _ rfl (w.heap.size + 2) ((2 * h + x) * 41) (by rfl) (wvL (rwT s 0 0 (2 * h + x))) _ hrg Try.underlying28 rfl (wvInfo61.trans (by simp [wvL])) ?_))
                      rw [show (wvL (rwT s 0 0 (2 * h + x))).toArray = wvA (rwT s 0 0 (2 * h + x)) from rfl]
                      obtain ⟨B, hB⟩ : ∃ B : Nat → Nat, B = fun K => sumN (2 * h + x) (fpT s K) := ⟨_, rfl⟩
                      obtain ⟨A, hA⟩ : ∃ A : Nat → Nat, A = rwT s 0 0 (2 * h + x) := ⟨_, rfl⟩
                      have hAl : ∀ K, A K ≤ 1099511627776 := fun K => by rw [hA, rwT, if_pos (Nat.zero_le _)]; exact enT_le hn40 _ _ _
                      have hBl : ∀ K, B K ≤ 4398046511104 := fun K => by
                        rw [hB]
                        have h1 := fp_le hn40 K (2 * h + x) (by omega)
                        have h2 : (2 * h + x) * 1099511627776 ≤ 4 * 1099511627776 := Nat.mul_le_mul_right _ (by omega)
                        exact Nat.le_trans h1 (Nat.le_trans h2 (by decide))
                      have HN : Hid (∀ K, sumN (2 * h + (x + 1)) (fpT s K) = B K + A K) := fun K => by
                        rw [hB, hA, rwT, if_pos (Nat.zero_le _), ← hfe.out K]; rfl
                      have hO3 := HO.out
                      rw [← hB, wvA_congr (g := addK B A 0) (fun K _ => (addK_zero _ _ K).symm)] at hO3
                      have HO3 := Lib.hid hO3
                      rw [← hA]
                      clear hO3 HO hrg hA hB hfe
                      go_loopw [92] (fun v wi => ∃ k : Nat, k ≤ 41 ∧ v = .int .i64 k ∧ Hid (wi.heap[w.heap.size + 1]? = some (.cells (wvA (addK B A k)) 28 (0, 0))) ∧ Hid (wi.heap[w.heap.size]? = some (.cells (wvA fun _ => 0) 28 (0, 0))) ∧ Hid (wi.heap[w.heap.size + 2]? = some (.cells (memA s.length (rwT s 0)) 55 (0, 0))) ∧ Below w.heap.size w wi) (fun v _ => 41 - (intOf v).toNat)
                      case atStart => exact ⟨0, by omega, rfl, HO3.out, HR.out, HE.out, hbw⟩
                      case round =>
                        clear HO3 HR HE hbw
                        obtain ⟨k, hk, rfl, HO, HR, HE, hbw⟩ := hrel
                        by_cases hk41 : k < 41
                        · have hkz : (k : Int) < 41 := by omega
                          have hix := fun w => idx61 (wvA A) k _ hk41 (wvA_get A hk41) w
                          have hcl := cell_of_block HO.out k
                          rw [wvA_get _ hk41] at hcl
                          rw [show addK B A k k = B k by rw [addK, if_neg (by omega)]] at hcl
                          have hfr := frozen_of_block HO.out k
                          have hst2 := block_set HO.out k (.int .i64 ((B k + A k : Nat) : Int))
                          rw [addK_next B A hk41] at hst2
                          have HST := Lib.hid hst2
                          have hBk := hBl k
                          have hAk := hAl k
                          obtain ⟨vS, hvS⟩ : ∃ q, q = B k + A k := ⟨_, rfl⟩
                          have hvz : (B k : Int) + (A k : Int) = (vS : Int) := by omega
                          have HvS := Lib.hid hvS
                          clear hst2 hvS
                          generalize B k = bk at *
                          generalize A k = ak at *
                          go_wp2_with fail
                          go_roundw
                          case rel => exact ⟨k + 1, by omega, by go_num, by rw [HvS.out]; exact HST.out, (awayH (by omega) _ _).trans HR.out, (awayH (by omega) _ _).trans HE.out, hbw.trans ((Below.set _ _).mono (by omega))⟩
                          case measure => simp [intOf]; omega
                        · obtain rfl : k = 41 := by omega
                          have hO4 := HO.out
                          rw [wvA_congr (g := fun K => sumN (2 * h + (x + 1)) (fpT s K)) (fun K hK => by rw [addK_all _ _ hK, HN.out K])] at hO4
                          have HO4 := Lib.hid hO4
                          clear hO4 HO
                          go_wp2_with fail
                          go_roundw
                          case rel => exact ⟨x + 1, by omega, by go_num, HO4.out, HR.out, HE.out, hbw⟩
                          case measure => simp [intOf]; omega
                  · obtain rfl : x = 2 := by omega
                    have hO5 := HO.out
                    rw [show 2 * h + 2 = 2 * (h + 1) by omega] at hO5
                    have HO5 := Lib.hid hO5
                    clear hO5 HO
                    go_wp2_with fail
                    go_roundw
                    case rel => exact ⟨h + 1, by omega, by go_num, HO5.out, HR.out, HE.out, hbw⟩
                    case measure => simp [intOf]; omega
              · obtain rfl : h = 2 := by omega
                have hO6 := HO.out
                rw [wvA_congr (g := fitW s (t.map sgM)) (fun K _ => by rw [show 2 * 2 = 4 from rfl, hF4.out K])] at hO6
                have hR6 := HR.out
                clear HO
                go_wp2_with (first
                  | (refine wpList_load_row rfl _ _ rfl (w.heap.size + 1) rfl 28 (wvA (fitW s (t.map sgM))) (0, 0) _ hO6 Try.underlying28 rfl (wvInfoA61 _) ?_)
                  | (refine wpList_store_row rfl _ _ _ rfl (w.heap.size) (wvA (fitW s (t.map sgM))) rfl rfl 28 _ hR6 (wvInfoA61 _) (by simp only [wvA_size]) (wvA_one _) ?_))
                have hlv := run_loadVar_row (P := Try.prog) (wr.setRow w.heap.size (wvA (fitW s (t.map sgM)))) w.heap.size 28 28 (wvA (fitW s (t.map sgM))) (0, 0) _ (setRow_heap wr _ _ _ _ _ hR6) Try.underlying28 rfl (wvInfoA61 _)
                refine bodyPost_ret (v := .agg (wvA (fitW s (t.map sgM)))) ?_ rfl ⟨rfl, below_setRow hbw (Nat.le_refl _) _⟩
                simp [results, Try.results15, asAddr, Act.put, hlv]
          · obtain ⟨a, ha⟩ : ∃ a, t.length = a + 1 := ⟨t.length - 1, by omega⟩
            have hF2 : Hid (∀ K, sumN 2 (lqT s t a K) = fitW s (t.map sgM) K) := fun K => by
              rw [fitW_ls hst t ht a ha (fun j hj => HCK.out j (by omega)) K]
              simp only [sumN, lqT]
              simp
              omega
            have hal : a < t.length := by omega
            have has : a < s.length := by omega
            have haz : (t.length : Int) - 1 = (a : Int) := by omega
            have heq0 : ((t.length : Int) == 0) = false := by rw [beq_eq_false_iff_ne]; omega
            have hCN0 := fun n w => stCan_any s hst a (bfT t a) (t.getD a false) n w (by omega) hn40
            obtain ⟨q, hq⟩ : ∃ q, q = (t.getD a false).toNat := ⟨_, rfl⟩
            rw [← hq] at hCN0
            have hCN := Lib.hid hCN0
            have HQ := Lib.hid hq
            clear hCN0
            have hct := cntF_take t hal
            rw [List.take_of_length_le (by omega)] at hct
            have hcle := cntF_le t
            have hq1 : q ≤ 1 := by rw [hq]; cases t.getD a false <;> decide
            clear hq
            have hbn : ∀ p, p + 1 = a → (rowI t.length fun i => (t.getD i false).toNat)[p]? = some (.int .i64 ((bfT t a).toNat : Int)) := fun p hp => by
              rw [rowI_get _ (show p < t.length by omega), ← hp]; simp [bfT]
            have HBN := Lib.hid hbn
            have HA := Lib.hid ha
            have hb0 : Hid (a = 0 → (bfT t a).toNat = 0) := fun h => by rw [h]; rfl
            have HCT := Lib.hid hct
            obtain ⟨mN, hmN⟩ : ∃ m, m = cntF t := ⟨_, rfl⟩
            rw [← hmN]
            rw [← hmN] at hcle
            have HMN := Lib.hid hmN
            clear ha hbn hct HCK hmN
            have heqz := heq0
            go_upto_if 105 with fail
            go_cut [17] (fun v wx => v = .int .i64 ((bfT t a).toNat : Int) ∧ wx = wr)
            case first =>
              by_cases ha0 : a = 0
              · have hz0 : ¬ ((1 : Int) < (t.length : Int)) := by have := HA.out; omega
                have hbz := hb0.out ha0
                go_wp2_with fail
                go_meet
                exact ⟨by rw [hbz]; rfl, rfl⟩
              · obtain ⟨p, hp⟩ : ∃ p, p + 1 = a := ⟨a - 1, by omega⟩
                have hz0 : (1 : Int) < (t.length : Int) := by have := HA.out; omega
                have hsub : (t.length : Int) - 2 = (p : Int) := by have := HA.out; omega
                have hcp := cell_of_block hSi.out p
                rw [HBN.out p hp] at hcp
                have hpl : p < t.length := by omega
                clear hp ha0
                go_wp2_with fail
                go_meet
                exact ⟨rfl, rfl⟩
            case rest =>
            obtain ⟨rfl, rfl⟩ := hcut
            have HO7 : Hid (wc.heap[w.heap.size + 1]? = some (.cells (wvA fun K => sumN 0 (lqT s t a K)) 28 (0, 0))) := hOi.out
            clear heqz heq0
            go_wp2_with fail
            go_loopw [18] (fun v wi => ∃ n : Nat, n ≤ 2 ∧ v = .int .i64 n ∧ Hid (wi.heap[w.heap.size + 1]? = some (.cells (wvA fun K => sumN n (lqT s t a K)) 28 (0, 0))) ∧ Hid (wi.heap[w.heap.size]? = some (.cells (wvA fun _ => 0) 28 (0, 0))) ∧ Hid (wi.heap[w.heap.size + 2]? = some (.cells (memA s.length (rwT s 0)) 55 (0, 0))) ∧ Hid (wi.heap[sB]? = some (.cells (rowI t.length fun i => (t.getD i false).toNat) 3 (0, 0))) ∧ Below w.heap.size w wi) (fun v _ => 2 - (intOf v).toNat)
            case atStart => exact ⟨0, by omega, rfl, HO7.out, hRi.out, hEi.out, hSi.out, hbw⟩
            case round =>
              clear HO7 hOi hRi hEi hbw hSi
              obtain ⟨n, hn, rfl, HO, HR, HE, HS, hbw⟩ := hrel
              have hSc := cell_of_block HS.out a
              rw [rowI_get _ hal, ← HQ.out] at hSc
              by_cases hn2 : n < 2
              · have hnz : (n : Int) < 2 := by omega
                have hcan := fun w => hCN.out (decide (n = 1)) w
                rw [bitN hn2] at hcan
                cases hcc : canM s a (bfT t a) (t.getD a false) (decide (n = 1)) with
                | false =>
                  rw [hcc] at hcan
                  have HCAN := Lib.hid hcan
                  have hO2 := HO.out
                  rw [wvA_congr (g := fun K => sumN (n + 1) (lqT s t a K)) (fun K _ => by rw [sumN, lqT, lsT, hcc]; simp)] at hO2
                  have HO2 := Lib.hid hO2
                  clear hcan hcc hO2 HO
                  go_wp2_with fail
                  refine (HCAN.out _).mono ?_
                  rintro e w6 ⟨rfl, rfl⟩
                  go_wp2_with fail
                  go_roundw
                  case rel => exact ⟨n + 1, by omega, by go_num, HO2.out, HR.out, HE.out, HS.out, hbw⟩
                  case measure => simp [intOf]; omega
                | true =>
                  rw [hcc] at hcan
                  have HCAN := Lib.hid hcan
                  obtain ⟨B, hB⟩ : ∃ B : Nat → Nat, B = fun K => sumN n (lqT s t a K) := ⟨_, rfl⟩
                  obtain ⟨C, hC⟩ : ∃ C, C = cntF (t.take a) := ⟨_, rfl⟩
                  have hq := HQ.out
                  obtain ⟨A, hA⟩ : ∃ A : Nat → Nat, A = rwT s 0 a (2 * q + n) := ⟨_, rfl⟩
                  have hAl : ∀ K, A K ≤ 1099511627776 := fun K => by rw [hA, rwT, if_pos (Nat.zero_le _)]; exact enT_le hn40 _ _ _
                  have hBl : ∀ K, B K ≤ 4398046511104 := fun K => by rw [hB]; exact lq_le hn40 t a K n (by omega)
                  have HNX : Hid (∀ K, sumN (n + 1) (lqT s t a K) = B K + shiftF A C K) := fun K => by
                    rw [hB, sumN, lqT, lsT, if_pos hcc, hC]
                    congr 1
                    refine shiftF_congr (fun m => ?_) _ _
                    rw [hA, rwT, if_pos (Nat.zero_le _), enT, hq, show (2 * (t.getD a false).toNat + n) / 2 = (t.getD a false).toNat by omega, show (2 * (t.getD a false).toNat + n) % 2 = n by omega, decBit]
                  have hO3 := HO.out
                  rw [← hB, wvA_congr (g := addS B A C 0) (fun K _ => (addS_zero _ _ _ K).symm)] at hO3
                  have HO3 := Lib.hid hO3
                  have hrg := mem_range HE.out has (show 2 * q + n < 4 by omega)
                  rw [← hA] at hrg
                  have hmn : mN = C + q := by rw [HMN.out, HCT.out, hC, hq]
                  have hmz1 : mN ≤ C + q := by omega
                  have hmz2 : C + q ≤ mN := by omega
                  clear hO3 HO hA hB hcc hcan hC hmn hq
                  go_wp2_with fail
                  refine (HCAN.out _).mono ?_
                  rintro e w6 ⟨rfl, rfl⟩
                  go_upto_region 41 with fail
                  obtain ⟨q2, hq2⟩ : ∃ x, x = 2 * q := ⟨_, rfl⟩
                  obtain ⟨Q, hQ⟩ : ∃ x, x = 2 * q + n := ⟨_, rfl⟩
                  rw [← hQ] at hrg
                  have w1 : IntKind.i64.wrap ((t.length : Int) - 1) = (a : Int) := by rw [IntWalk.i64_in _ (by omega)]; omega
                  have w2 : IntKind.i64.wrap (2 * (q : Int)) = (q2 : Int) := by rw [IntWalk.i64_in _ (by omega)]; omega
                  have w3 : IntKind.i64.wrap ((q2 : Int) + (n : Int)) = (Q : Int) := by rw [IntWalk.i64_in _ (by omega)]; omega
                  have i1 := fun w => iaI sB t.length a hal w
                  have i2 := fun w' => ia88 (w.heap.size + 2) s.length a has w'
                  have i3 := fun w' => ia91 (w.heap.size + 2) (a * 164) Q (by omega) w'
                  have HRG := Lib.hid hrg
                  have HC := Lib.hid hcle
                  clear hq2 hQ haz hrg
                  refine wp_region_quiet_lit (by kernel_rfl) (by kernel_rfl) ?_
                  repeat (go_big_quiet_step (fail))
                  refine wpQuiet_row (by kernel_rfl) 28 _ rfl (w.heap.size + 2) (a * 164 + Q * 41) (by rfl) (wvL A) _ (fun w' hw' => ?_) Try.underlying28 rfl (wvInfo61.trans (by simp [wvL])) ?_
                  · obtain ⟨m, rfl⟩ := hw'
                    exact fun j v hv => by rw [World.cell?_drewN]; exact HRG.out j v hv
                  clear w1 w2 w3 i1 i2 i3
                  simp only [Act.put, List.setIfInBounds_toArray, List.set_cons_zero, List.set_cons_succ]
                  repeat (go_big_quiet_step (fail))
                  refine wpQuiet_nil ?_
                  intro wq hwq
                  obtain ⟨nq, rfl⟩ := hwq
                  rw [show (wvL A).toArray = wvA A from rfl]
                  have hO8 := Lib.hid (show (wr.drewN nq).heap[w.heap.size + 1]? = _ from HO3.out)
                  have hR8 := Lib.hid (show (wr.drewN nq).heap[w.heap.size]? = _ from HR.out)
                  have hE8 := Lib.hid (show (wr.drewN nq).heap[w.heap.size + 2]? = _ from HE.out)
                  have hS8 := Lib.hid (show (wr.drewN nq).heap[sB]? = _ from HS.out)
                  have hb8 := below_drewN hbw nq
                  clear HO3 HR HE HS hbw hSc HRG
                  generalize wr.drewN nq = w8 at *
                  go_wp2_with fail
                  go_loopw [140] (fun v wi => ∃ k : Nat, k ≤ 41 ∧ v = .int .i64 k ∧ Hid (wi.heap[w.heap.size + 1]? = some (.cells (wvA (addS B A C k)) 28 (0, 0))) ∧ Hid (wi.heap[w.heap.size]? = some (.cells (wvA fun _ => 0) 28 (0, 0))) ∧ Hid (wi.heap[w.heap.size + 2]? = some (.cells (memA s.length (rwT s 0)) 55 (0, 0))) ∧ Hid (wi.heap[sB]? = some (.cells (rowI t.length fun i => (t.getD i false).toNat) 3 (0, 0))) ∧ Below w.heap.size w wi) (fun v _ => 41 - (intOf v).toNat)
                  case atStart => exact ⟨0, by omega, rfl, hO8.out, hR8.out, hE8.out, hS8.out, hb8⟩
                  case round =>
                    clear hO8 hR8 hE8 hS8 hb8
                    obtain ⟨k, hk, rfl, HO, HR, HE, HS, hbw⟩ := hrel
                    have hSc := cell_of_block HS.out a
                    rw [rowI_get _ hal, ← HQ.out] at hSc
                    have haz : (t.length : Int) - 1 = (a : Int) := by have := HA.out; omega
                    have hCl : C ≤ 40 := by have := HC.out; have := ht; omega
                    by_cases hk41 : k < 41
                    · have hkz : (k : Int) < 41 := by omega
                      have hix := fun w => idx61 (wvA A) k _ hk41 (wvA_get A hk41) w
                      have hsum : (k : Int) + (mN : Int) - (q : Int) = ((C + k : Nat) : Int) := by omega
                      obtain ⟨M, hM⟩ : ∃ M, M = C + k := ⟨_, rfl⟩
                      rw [← hM] at hsum
                      by_cases hM41 : M < 41
                      · have hMz : (M : Int) < 41 := by omega
                        have hcl := cell_of_block HO.out M
                        rw [wvA_get _ hM41, show addS B A C k M = B M by rw [addS, if_neg (by omega)]] at hcl
                        have hfr := frozen_of_block HO.out M
                        have hst2 := block_set HO.out M (.int .i64 ((B M + A k : Nat) : Int))
                        have hnx2 := addS_next B A C (k := k) (by omega)
                        rw [← hM] at hnx2
                        rw [hnx2] at hst2
                        have HST := Lib.hid hst2
                        have hBk := hBl M
                        have hAk := hAl k
                        obtain ⟨vS, hvS⟩ : ∃ q, q = B M + A k := ⟨_, rfl⟩
                        have hvz : (B M : Int) + (A k : Int) = (vS : Int) := by omega
                        have HvS := Lib.hid hvS
                        clear hst2 hvS hM hnx2
                        generalize B M = bk at *
                        generalize A k = ak at *
                        go_wp2_with fail
                        go_roundw
                        case rel => exact ⟨k + 1, by omega, by go_num, by rw [HvS.out]; exact HST.out, (awayH (by omega) _ _).trans HR.out, (awayH (by omega) _ _).trans HE.out, (awayH (by omega) _ _).trans HS.out, hbw.trans ((Below.set _ _).mono (by omega))⟩
                        case measure => simp [intOf]; omega
                      · have hMz : ¬ (M : Int) < 41 := by omega
                        have hO9 := HO.out
                        rw [addS_skip B A C (show 41 ≤ C + k by omega)] at hO9
                        have HO9 := Lib.hid hO9
                        clear hO9 HO hM
                        go_wp2_with fail
                        go_roundw
                        case rel => exact ⟨k + 1, by omega, by go_num, HO9.out, HR.out, HE.out, HS.out, hbw⟩
                        case measure => simp [intOf]; omega
                    · obtain rfl : k = 41 := by omega
                      have hO4 := HO.out
                      rw [wvA_congr (g := fun K => sumN (n + 1) (lqT s t a K)) (fun K hK => by rw [addS_all _ _ _ hK (by omega), HNX.out K])] at hO4
                      have HO4 := Lib.hid hO4
                      clear hO4 HO
                      go_wp2_with fail
                      go_roundw
                      case rel => exact ⟨n + 1, by omega, by go_num, HO4.out, HR.out, HE.out, HS.out, hbw⟩
                      case measure => simp [intOf]; omega
              · obtain rfl : n = 2 := by omega
                have hO6 := HO.out
                rw [wvA_congr (g := fitW s (t.map sgM)) (fun K _ => hF2.out K)] at hO6
                have hR6 := HR.out
                clear HO
                go_wp2_with (first
                  | (refine wpList_load_row rfl _ _ rfl (w.heap.size + 1) rfl 28 (wvA (fitW s (t.map sgM))) (0, 0) _ hO6 Try.underlying28 rfl (wvInfoA61 _) ?_)
                  | (refine wpList_store_row rfl _ _ _ rfl (w.heap.size) (wvA (fitW s (t.map sgM))) rfl rfl 28 _ hR6 (wvInfoA61 _) (by simp only [wvA_size]) (wvA_one _) ?_))
                have hlv := run_loadVar_row (P := Try.prog) (wr.setRow w.heap.size (wvA (fitW s (t.map sgM)))) w.heap.size 28 28 (wvA (fitW s (t.map sgM))) (0, 0) _ (setRow_heap wr _ _ _ _ _ hR6) Try.underlying28 rfl (wvInfoA61 _)
                refine bodyPost_ret (v := .agg (wvA (fitW s (t.map sgM)))) ?_ rfl ⟨rfl, below_setRow hbw (Nat.le_refl _) _⟩
                simp [results, Try.results15, asAddr, Act.put, hlv]
end Go.Proofs.Ythlbplmghjaeoaf
