/- Puzzles: the laws' own helpers: arguments copied, puzzles held against each other. -/
import Derived.Test.YthlbplmghjaeoaaDoorA4
import Derived.Deep.RegionLaw
import Derived.OwnWalk
import Derived.Deep.DeepCutAuto
import Derived.Outline
namespace Go.Proofs.YthlbplmghjaeoaaDoor
open Go.RowKit

set_option maxRecDepth 100000 in
set_option maxHeartbeats 1600000 in
theorem toClue_any (c : Clu) (w : World) :
    Calls Tryd.prog 10 #[valC c] w fun e w' => e = .returned (valC c) ∧ Below w.heap.size w w' := by
  unfold valC
  have hb : Below w.heap.size w (((w.alloc (.cells #[.int .i64 c.k, .int .i64 c.a, .int .i64 c.b] 23)).alloc (.cells #[.int .i64 c.k, .int .i64 c.a, .int .i64 c.b] 26)).alloc (.cells #[.int .i64 c.k, .int .i64 c.a, .int .i64 c.b] 26)) := (((Below.refl _ _).alloc (Nat.le_refl _) _).alloc (by simp) _).alloc (by simp; omega) _
  go_enter Tryd.func10, Tryd.ntmps10
  go_wp2_with fail
  have hB := (blk3 w (.cells #[.int .i64 c.k, .int .i64 c.a, .int .i64 c.b] 23) (.cells #[.int .i64 c.k, .int .i64 c.a, .int .i64 c.b] 26) (.cells #[.int .i64 c.k, .int .i64 c.a, .int .i64 c.b] 26)).2.1
  exact bodyPost_ret (results_cell_row rfl _ _ _ _ _ _ _ rfl hB Tryd.underlying26 rfl infClu) rfl ⟨rfl, hb⟩
theorem take_put3 {l : List Value} {j : Nat} {x y z : Value} (h : j + 2 < l.length) : (((l.set j x).set (j + 1) y).set (j + 2) z).take (j + 3) = l.take j ++ [x, y, z] := by
  apply List.ext_getElem?
  intro i
  simp only [List.getElem?_take, List.getElem?_set, List.length_set, List.getElem?_append, List.length_take]
  rw [Nat.min_eq_left (by omega)]
  by_cases h1 : i < j
  · rw [if_pos (by omega), if_neg (by omega), if_neg (by omega), if_neg (by omega), if_pos h1, if_pos h1]
  · rw [if_neg h1]
    by_cases h2 : i < j + 3
    · rw [if_pos h2]
      rcases (by omega : i = j ∨ i = j + 1 ∨ i = j + 2) with rfl | rfl | rfl
      · rw [if_neg (by omega), if_neg (by omega), if_pos rfl, if_pos (by omega)]; simp
      · rw [if_neg (by omega), if_pos rfl, if_pos (by omega), show j + 1 - j = 1 by omega]; rfl
      · rw [if_pos rfl, if_pos (by omega), show j + 2 - j = 2 by omega]; rfl
    · rw [if_neg h2]
      exact (List.getElem?_eq_none (by simp; omega)).symm
set_option maxRecDepth 100000 in
set_option maxHeartbeats 1600000 in
theorem toClueS_any (cs : List Clu) (a : Option Addr) (cap : Nat) (w : World) (hat : At w a (flatC cs)) (hl : cs.length ≤ 1048576) :
    Calls Tryd.prog 50 #[.slice a cs.length cap] w fun e w' => ∃ v, e = .returned v ∧ RowC w' w.heap.size v cs ∧ Below w.heap.size w w' := by
  have hc := infClu2
  obtain ⟨i, hi⟩ : ∃ i, Tryd.prog.info? 26 = some i := by
    cases h : Tryd.prog.info? 26 with
    | none => rw [h] at hc; cases hc
    | some i => exact ⟨i, rfl⟩
  rw [hi] at hc
  simp only [Option.map_some, Option.some.injEq, Prod.mk.injEq] at hc
  obtain ⟨hi1, hi2, hi3⟩ := hc
  obtain ⟨z, hz⟩ : ∃ z, i.zero = some z := by
    cases h : i.zero with
    | none => rw [h] at hi3; cases hi3
    | some z => exact ⟨z, rfl⟩
  rw [hz] at hi3
  simp only [Option.map_some, Option.some.injEq] at hi3
  have HTC := Lib.hid (fun c w => toClue_any c w)
  unfold valC at HTC
  go_enter Tryd.func50, Tryd.ntmps50
  go_wp2_with (refine wpList_make_full _ rfl _ _ _ rfl w.heap.size _ _ _ _ Tryd.underlying29 hi hz hi1 _ _ _ _ cs.length (by rfl) (by rfl) rfl rfl (by rw [hi2]; omega) (by simp [maxLen]; omega) (Nat.le_refl _) ?_; intro w1 hown hgr)
  have hb1 : Below w.heap.size w w1 := (Below.refl _ _).grown hgr (Nat.le_refl _) (fun k hk => by cases hk)
  obtain ⟨cur0, hc0, hs0⟩ : ∃ cur, w1.heap[w.heap.size]? = some (.cells cur 26 (0, 0)) ∧ cur.size = cs.length * 3 := by
    obtain ⟨_, ⟨h1, _⟩ | ⟨g, cap', cur, hv, _, hh, _, _, hs, _⟩⟩ := hown
    · simp at h1
    · obtain ⟨rfl, rfl⟩ : w.heap.size = g ∧ cs.length = cap' := by simpa using hv
      exact ⟨cur, hh, hs⟩
  have HAT := Lib.hid hat
  have HC0 := Lib.hid hc0
  have HS0 := Lib.hid hs0
  clear hown hgr hi hi1 hi2 hz hi3 hat hc0 hs0
  go_wp2_with fail
  go_loopw [4] (fun i wr => ∃ k : Nat, k ≤ cs.length ∧ i = .int .i64 k ∧ (∃ cur, Hid (wr.heap[w.heap.size]? = some (.cells cur 26 (0, 0))) ∧ Hid (cur.size = cs.length * 3) ∧ Hid (cur.toList.take (k * 3) = flatC (cs.take k))) ∧ Below w.heap.size w wr) (fun i _ => cs.length - (intOf i).toNat)
  case atStart => exact ⟨0, Nat.zero_le _, rfl, ⟨cur0, HC0, HS0, by simp [Hid, flatC]⟩, hb1⟩
  case round =>
    clear HC0 HS0 hb1
    obtain ⟨k, hk, rfl, ⟨cur, HC, HS, HT⟩, hbr⟩ := hrel
    by_cases hlt : k < cs.length
    · obtain ⟨g, off, rfl, hgl, q0, q1, q2⟩ := clu_at (HAT.out.later rfl hbr) k hlt
      have hTK : Hid (flatC (cs.take (k + 1)) = flatC (cs.take k) ++ encC cs[k]) := by
        rw [Hid, List.take_succ_eq_append_getElem hlt, flatC_append]; simp [flatC]
      have i1 : (k : Int) < (cs.length : Int) := by omega
      generalize cs[k] = c at *
      have hlen : k * 3 + 2 < cur.size := by rw [HS.out]; omega
      have HLN := Lib.hid hlen
      obtain ⟨x0, x1, x2, hRD⟩ : ∃ x0 x1 x2 : Value, ∀ w2 : World, w2.heap[w.heap.size]? = some (.cells cur 26 (0, 0)) → w2.cell? ⟨w.heap.size, k * 3, none⟩ = some x0 ∧ w2.cell? ⟨w.heap.size, k * 3 + 1, none⟩ = some x1 ∧ w2.cell? ⟨w.heap.size, k * 3 + 2, none⟩ = some x2 :=
        ⟨_, _, _, fun w2 h => ⟨(cell_of_block h (k * 3)).trans (Array.getElem?_eq_getElem (show k * 3 < cur.size by omega)), (cell_of_block h (k * 3 + 1)).trans (Array.getElem?_eq_getElem (show k * 3 + 1 < cur.size by omega)), (cell_of_block h (k * 3 + 2)).trans (Array.getElem?_eq_getElem hlen)⟩⟩
      have RD := Lib.hid hRD
      clear hRD
      clear hlen
      go_wp2_with (go_at_call 10; refine (HTC.out c _).mono ?_; rintro e w2 ⟨rfl, hb2⟩; have HC2 := Lib.hid ((hb2.block _ (block_lt HC.out)).trans HC.out); have hf2 := frozen_of_block HC2.out; obtain ⟨r0, r1, r2⟩ := RD.out w2 HC2.out)
      have hC5 := block_set (block_set (block_set HC2.out (k * 3) (.int .i64 c.k)) (k * 3 + 1) (.int .i64 c.a)) (k * 3 + 2) (.int .i64 c.b)
      have hb5 := (hbr.trans (hb2.mono hbr.size)).trans ((((Below.set (w := w2) (g := w.heap.size) (k * 3) (.int .i64 c.k)).trans (Below.set (k * 3 + 1) (.int .i64 c.a)))).trans (Below.set (k * 3 + 2) (.int .i64 c.b)))
      have hS5 : Hid ((((cur.setIfInBounds (k * 3) (.int .i64 c.k)).setIfInBounds (k * 3 + 1) (.int .i64 c.a)).setIfInBounds (k * 3 + 2) (.int .i64 c.b)).size = cs.length * 3) := by rw [Hid]; simp [HS.out]
      have hT5 : Hid ((((cur.setIfInBounds (k * 3) (.int .i64 c.k)).setIfInBounds (k * 3 + 1) (.int .i64 c.a)).setIfInBounds (k * 3 + 2) (.int .i64 c.b)).toList.take ((k + 1) * 3) = flatC (cs.take (k + 1))) := by
        rw [Hid, hTK.out, ← HT.out, show (k + 1) * 3 = k * 3 + 3 by omega]
        simp only [Array.toList_setIfInBounds]
        exact take_put3 (by simpa using HLN.out)
      have HC5 := Lib.hid hC5
      clear hC5
      go_roundw
      case rel => exact ⟨k + 1, by omega, by go_num, ⟨_, HC5, hS5, hT5⟩, hb5⟩
      case measure => simp [intOf]; omega
    · obtain rfl : k = cs.length := by omega
      go_wp2_with fail
      go_ret
      have ht := HT.out
      rw [List.take_length] at ht
      refine ⟨_, rfl, ⟨_, _, rfl, Nat.le_refl _, by omega, (fun h => by cases h), fun ad had => ?_⟩, hbr⟩
      obtain rfl : (⟨w.heap.size, 0, none⟩ : Addr) = ad := by simpa using had
      exact ⟨_, rfl, Nat.le_refl _, cur, HC.out, by rw [HS.out]; exact Nat.le_refl _, ht⟩
set_option maxRecDepth 100000 in
set_option maxHeartbeats 1600000 in
theorem toPuzzle_any (x y : Int) (cs : List Clu) (a : Option Addr) (cap : Nat) (w : World) (hat : At w a (flatC cs)) (hl : cs.length ≤ 1048576) :
    Calls Tryd.prog 19 #[.agg #[.int .i64 x, .int .i64 y, .slice a cs.length cap]] w fun e w' => ∃ v, e = .returned (.agg #[.int .i64 x, .int .i64 y, v]) ∧ RowC w' w.heap.size v cs ∧ Below w.heap.size w w' := by
  have HTC := Lib.hid (fun a w h => toClueS_any cs a cap w h hl)
  have HAT := Lib.hid hat
  clear hat
  go_enter Tryd.func19, Tryd.ntmps19
  go_upto_region 4 with fail
  have hb1 : Below w.heap.size w (((w.alloc (.cells #[.int .i64 x, .int .i64 y, .slice a cs.length cap] 39)).alloc (.cells #[.int .i64 0, .int .i64 0, .slice none 0 0] 31)).alloc (.cells #[.int .i64 x, .int .i64 y, .slice none 0 0] 31)) := (((Below.refl _ _).alloc (Nat.le_refl _) _).alloc (by simp) _).alloc (by simp; omega) _
  obtain ⟨hA, hB, hC⟩ := blk3 w (.cells #[.int .i64 x, .int .i64 y, .slice a cs.length cap] 39) (.cells #[.int .i64 0, .int .i64 0, .slice none 0 0] 31) (.cells #[.int .i64 x, .int .i64 y, .slice none 0 0] 31)
  generalize ((w.alloc (.cells #[.int .i64 x, .int .i64 y, .slice a cs.length cap] 39)).alloc (.cells #[.int .i64 0, .int .i64 0, .slice none 0 0] 31)).alloc (.cells #[.int .i64 x, .int .i64 y, .slice none 0 0] 31) = w1 at *
  have f0 := cell_of_block hA 0
  have f1 := cell_of_block hA 1
  have f2 := cell_of_block hA 2
  simp at f0 f1 f2
  have HB := Lib.hid hB
  have HC := Lib.hid hC
  clear hA hB hC
  go_wp2_with fail
  refine (HTC.out a w1 (HAT.out.later rfl hb1)).mono ?_
  rintro e w2 ⟨v, rfl, hR, hb2⟩
  obtain ⟨a2, c2, hv⟩ := hR.shape
  subst hv
  have hB2 := (hb2.block _ (block_lt HB.out)).trans HB.out
  have hC2 := (hb2.block _ (block_lt HC.out)).trans HC.out
  have hb3 := hb1.trans (hb2.mono hb1.size)
  have hR3 := hR.mono hb1.size
  clear hb1 hb2 hR HB HC f0 f1 f2
  have z0 := cell_of_block hB2 0
  have z1 := cell_of_block hB2 1
  have z2 := cell_of_block hB2 2
  have zf := frozen_of_block hB2
  have y0 := cell_of_block hC2 0
  have y1 := cell_of_block hC2 1
  have y2 := cell_of_block hC2 2
  have yf := frozen_of_block hC2
  simp at z0 z1 z2 y0 y1 y2
  have HB2 := Lib.hid hB2
  have HC2 := Lib.hid hC2
  clear hB2 hC2
  go_wp2_with fail
  have hB4 := (away_setC (w := w2) (g := w.heap.size + 2) (j := 2) (v := .slice a2 cs.length c2) (show w.heap.size + 1 ≠ w.heap.size + 2 by omega)).trans HB2.out
  obtain ⟨hB5, hb5⟩ := puzzle_stored (B := w.heap.size) hB4 (by omega) (.int .i64 x) (.int .i64 y) (.slice a2 cs.length c2)
  exact bodyPost_ret (results_cell_row rfl _ _ _ _ _ _ _ rfl hB5 Tryd.underlying31 rfl infPuz) rfl ⟨_, rfl, (hR3.put HC2.out).put3 hB4, (hb3.trans ((Below.set _ _).mono (by omega))).trans hb5⟩
set_option maxRecDepth 100000 in
set_option maxHeartbeats 800000 in
theorem eqClue_same (c : Clu) (w : World) : Calls Tryd.prog 77 #[valC c, valC c] w fun e w' => e = .returned (.bool true) ∧ Below w.heap.size w w' := by
  unfold valC
  have hb : Below w.heap.size w ((w.alloc (.cells #[.int .i64 c.k, .int .i64 c.a, .int .i64 c.b] 26)).alloc (.cells #[.int .i64 c.k, .int .i64 c.a, .int .i64 c.b] 26)) := ((Below.refl _ _).alloc (Nat.le_refl _) _).alloc (by simp) _
  have d0 : ∀ x : Int, (x != x) = false := fun x => by simp
  go_enter Tryd.func77, Tryd.ntmps77
  go_wp2_with fail
  go_ret
  exact ⟨rfl, hb⟩
set_option maxRecDepth 100000 in
set_option maxHeartbeats 1600000 in
theorem eqClueS_same (cs : List Clu) (a b : Option Addr) (n m c d : Nat) (w : World) (hn : n = cs.length) (hm : m = cs.length) (ha : At w a (flatC cs)) (hb : At w b (flatC cs)) (hl : cs.length ≤ 1099511627776) :
    Calls Tryd.prog 44 #[.slice a n c, .slice b m d] w fun e w' => e = .returned (.bool true) ∧ Below w.heap.size w w' := by
  subst hn
  subst hm
  have HE := Lib.hid (fun c w => eqClue_same c w)
  unfold valC at HE
  have HA := Lib.hid ha
  have HB := Lib.hid hb
  clear ha hb
  have d0 : ((cs.length : Int) != (cs.length : Int)) = false := by simp
  go_enter Tryd.func44, Tryd.ntmps44
  go_wp2_with fail
  go_loopw [5] (fun i wr => ∃ k : Nat, k ≤ cs.length ∧ i = .int .i64 k ∧ Below w.heap.size w wr) (fun i _ => cs.length - (intOf i).toNat)
  case atStart => exact ⟨0, Nat.zero_le _, rfl, Below.refl _ _⟩
  case round =>
    obtain ⟨k, hk, rfl, hbr⟩ := hrel
    by_cases hlt : k < cs.length
    · obtain ⟨g, off, rfl, hgl, q0, q1, q2⟩ := clu_at (HA.out.later rfl hbr) k hlt
      obtain ⟨g2, off2, rfl, hgl2, r0, r1, r2⟩ := clu_at (HB.out.later rfl hbr) k hlt
      have i1 : (k : Int) < (cs.length : Int) := by omega
      generalize cs[k] = c at *
      have HBR := Lib.hid hbr
      clear hbr
      go_wp2_with fail
      go_region_law (first
        | (go_simp; go_at_call 77; refine (HE.out c _).mono ?_; rintro e w2 ⟨rfl, hb2⟩)
        | fail)
      all_goals
        have hb3 := HBR.out.trans ((ofDrewC hb2).mono HBR.out.size)
        go_wp2_with fail
        go_roundw
        case rel => exact ⟨k + 1, by omega, by go_num, hb3⟩
        case measure => simp [intOf]; omega
    · obtain rfl : k = cs.length := by omega
      go_wp2_with fail
      go_ret
      exact ⟨rfl, hbr⟩
set_option maxRecDepth 100000 in
set_option maxHeartbeats 800000 in
theorem eqPuzzle_same (x y : Int) (cs : List Clu) (a b : Option Addr) (n m c d : Nat) (w : World) (hn : n = cs.length) (hm : m = cs.length) (ha : At w a (flatC cs)) (hb : At w b (flatC cs)) (hl : cs.length ≤ 1099511627776) :
    Calls Tryd.prog 14 #[.agg #[.int .i64 x, .int .i64 y, .slice a n c], .agg #[.int .i64 x, .int .i64 y, .slice b m d]] w fun e w' => e = .returned (.bool true) ∧ Below w.heap.size w w' := by
  subst hn
  subst hm
  have hw : Below w.heap.size w ((w.alloc (.cells #[.int .i64 x, .int .i64 y, .slice a cs.length c] 31)).alloc (.cells #[.int .i64 x, .int .i64 y, .slice b cs.length d] 31)) := ((Below.refl _ _).alloc (Nat.le_refl _) _).alloc (by simp) _
  have h1 := eqClueS_same cs a b cs.length cs.length c d _ rfl rfl (ha.later rfl hw) (hb.later rfl hw) hl
  have d0 : ∀ x : Int, (x != x) = false := fun x => by simp
  have H1 := Lib.hid h1
  clear h1 ha hb
  go_enter Tryd.func14, Tryd.ntmps14
  go_wp2_with fail
  refine H1.out.mono ?_
  rintro e w1 ⟨rfl, hb1⟩
  have hb2 := hw.trans (hb1.mono hw.size)
  clear hw hb1 H1
  go_wp2_with fail
  go_ret
  exact ⟨rfl, hb2⟩
set_option maxRecDepth 100000 in
set_option maxHeartbeats 800000 in
theorem szPuzzle_yes (x y : Int) (a : Option Addr) (n c : Nat) (w : World) (hn : n ≤ 1048576) :
    Calls Tryd.prog 17 #[.agg #[.int .i64 x, .int .i64 y, .slice a n c], .int .i64 1048576] w fun e w' => ∃ m : Int, e = .returned (.int .i64 m) ∧ 0 ≤ m ∧ Below w.heap.size w w' := by
  have hb : Below w.heap.size w (w.alloc (.cells #[.int .i64 x, .int .i64 y, .slice a n c] 39)) := (Below.refl _ _).alloc (Nat.le_refl _) _
  have hm : ¬ (1048576 - (n : Int) < 0) := by omega
  go_enter Tryd.func17, Tryd.ntmps17
  go_wp2
  go_ret
  exact ⟨_, rfl, by omega, hb⟩
set_option maxRecDepth 100000 in
set_option maxHeartbeats 800000 in
theorem szPuzzle_no (x y : Int) (a : Option Addr) (n c : Nat) (w : World) (hn : 1048576 < n) (hn2 : n ≤ 9223372036854775807) :
    Calls Tryd.prog 17 #[.agg #[.int .i64 x, .int .i64 y, .slice a n c], .int .i64 1048576] w fun e w' => e = .returned (.int .i64 (-1)) ∧ Below w.heap.size w w' := by
  have hb : Below w.heap.size w (w.alloc (.cells #[.int .i64 x, .int .i64 y, .slice a n c] 39)) := (Below.refl _ _).alloc (Nat.le_refl _) _
  have hm : (1048576 - (n : Int) < 0) := by omega
  go_enter Tryd.func17, Tryd.ntmps17
  go_wp2
  go_ret
  exact ⟨rfl, hb⟩
end Go.Proofs.YthlbplmghjaeoaaDoor
