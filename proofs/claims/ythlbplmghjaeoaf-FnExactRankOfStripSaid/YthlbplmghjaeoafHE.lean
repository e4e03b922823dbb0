/- Strips: the table of ends, made by the model. -/
import Derived.Test.YthlbplmghjaeoafHD
import Derived.Deep.LoopGhost
import Derived.StillTailTactics
namespace Go.Proofs.Ythlbplmghjaeoaf
open Go.RowKit

def z164 : Array Value := (List.replicate 164 (Value.int .i64 0)).toArray
theorem made164 (n : Nat) : madeCells z164 (n * 164) = memA n (fun _ _ _ => 0) := by
  apply Array.ext
  · rw [size_madeCells, memA_size]
  · intro i h1 h2
    rw [size_madeCells] at h1
    have hz : ∀ j, j < 164 → z164[j]! = .int .i64 0 := by
      intro j hj
      have hs : j < z164.size := by rw [z164, List.size_toArray, List.length_replicate]; exact hj
      rw [getElem!_pos z164 j hs]
      exact List.getElem_replicate ..
    have e1 : (madeCells z164 (n * 164))[i] = z164[i % z164.size]! := by simp [madeCells]
    rw [e1, hz _ (by rw [z164, List.size_toArray, List.length_replicate]; omega)]
    simp [memA, memL]
/-- The first entries of the last row. -/
def iniT (l h r q m : Nat) : Nat := if r = l ∧ q % 2 = 0 ∧ q / 2 < h ∧ m = q / 2 then 1 else 0
theorem iniT_zero (n l : Nat) : memA n (iniT l 0) = memA n (fun _ _ _ => 0) := memA_congr fun r q m _ _ _ => by
  unfold iniT; rw [if_neg (by omega)]
theorem iniT_next (n l h : Nat) (hh : h < 2) : memA n (fun r' q' m' => if r' = l ∧ q' = 2 * h ∧ m' = h then 1 else iniT l h r' q' m') = memA n (iniT l (h + 1)) := memA_congr fun r q m _ hq _ => by
  unfold iniT
  by_cases h1 : r = l ∧ q = 2 * h ∧ m = h
  · rw [if_pos h1, if_pos (by omega)]
  · rw [if_neg h1]
    by_cases h2 : r = l ∧ q % 2 = 0 ∧ q / 2 < h ∧ m = q / 2
    · rw [if_pos h2, if_pos (by omega)]
    · rw [if_neg h2, if_neg (by omega)]
theorem iniT_end (s : List UInt8) (n : Nat) (hn : s.length = n + 1) : memA s.length (iniT n 2) = memA s.length (rwT s n) := memA_congr fun r q m hr hq _ => by
  unfold iniT rwT
  by_cases h : n ≤ r
  · have e : r = n := by omega
    subst e
    have e2 : s.length - 1 - r = 0 := by omega
    rw [if_pos h, enT, e2, endS]
    match q, hq with
    | 0, _ => simp
    | 1, _ => simp
    | 2, _ => simp
    | 3, _ => simp
  · rw [if_neg h, if_neg (by omega)]
theorem enT_part {s : List UInt8} {k h x m : Nat} (hh : h < 2) (hx : x < 2) : enT s k (2 * h + x) m = endS s (s.length - 1 - k) (decide (h = 1)) (decide (x = 1)) m := by
  rw [enT, show (2 * h + x) / 2 = h by omega, show (2 * h + x) % 2 = x by omega]
theorem stT_part (s : List UInt8) (k Q : Nat) (R : Nat → Nat) (m : Nat) : stT s k Q R k Q m = R m := by
  unfold stT; rw [if_neg (by omega), if_pos rfl, if_neg (by omega), if_pos rfl]
theorem stT_next (s : List UInt8) (k Q : Nat) (R : Nat → Nat) (q m : Nat) : stT s k Q R (k + 1) q m = enT s (k + 1) q m := by
  unfold stT; rw [if_pos (by omega)]
theorem jbT_le {s : List UInt8} (hs : s.length ≤ 40) (k : Nat) (h nx : Bool) (b j m : Nat) : jbT s k h nx b j m ≤ 4398046511104 := by
  have h1 := pbT_le hs k h nx b m
  unfold jbT
  split
  · have := Nat.le_trans (endS_le s (s.length - 1 - (k + 1)) nx (decide (b = 1)) (m - h.toNat)) (Nat.le_trans (Nat.pow_le_pow_right (by decide) (show s.length - 1 - (k + 1) ≤ 40 by omega)) (show 2 ^ 40 ≤ 1099511627776 by decide))
    omega
  · omega
theorem jb_next {s : List UInt8} {n k h x b j : Nat} (hh : h < 2) (hx : x < 2) (hb : b < 2) :
    memA n (fun r' q' m' => if r' = k ∧ q' = 2 * h + x ∧ m' = j + h then stT s k (2 * h + x) (jbT s k (decide (h = 1)) (decide (x = 1)) b j) k (2 * h + x) (j + h) + stT s k (2 * h + x) (jbT s k (decide (h = 1)) (decide (x = 1)) b j) (k + 1) (2 * x + b) j else stT s k (2 * h + x) (jbT s k (decide (h = 1)) (decide (x = 1)) b j) r' q' m') = memA n (stT s k (2 * h + x) (jbT s k (decide (h = 1)) (decide (x = 1)) b (j + 1))) := memA_congr fun r q m _ hq hm => by
  have hhN : (decide (h = 1)).toNat = h := by
    match h, hh with
    | 0, _ => rfl
    | 1, _ => rfl
  have hB : enT s (k + 1) (2 * x + b) j = endS s (s.length - 1 - (k + 1)) (decide (x = 1)) (decide (b = 1)) j := by
    rw [enT, show (2 * x + b) / 2 = x by omega, show (2 * x + b) % 2 = b by omega]
  rw [stT_part, stT_next, hB]
  by_cases h1 : r = k ∧ q = 2 * h + x ∧ m = j + h
  · obtain ⟨rfl, rfl, rfl⟩ := h1
    rw [if_pos ⟨rfl, rfl, rfl⟩, stT_part]
    unfold jbT
    rw [hhN, if_neg (by omega), if_pos (by omega), Nat.add_zero, show j + h - h = j by omega]
  · rw [if_neg h1]
    unfold stT
    by_cases h2 : k < r
    · rw [if_pos h2, if_pos h2]
    · rw [if_neg h2, if_neg h2]
      by_cases h3 : r = k
      · rw [if_pos h3, if_pos h3]
        by_cases h4 : q < 2 * h + x
        · rw [if_pos h4, if_pos h4]
        · rw [if_neg h4, if_neg h4]
          by_cases h5 : q = 2 * h + x
          · rw [if_pos h5, if_pos h5]
            unfold jbT
            rw [hhN]
            by_cases h6 : h ≤ m ∧ m < j + h
            · rw [if_pos h6, if_pos (by omega)]
            · rw [if_neg h6, if_neg (by omega)]
          · rw [if_neg h5, if_neg h5]
      · rw [if_neg h3, if_neg h3]
theorem bitM {h : Nat} (hh : h < 2) : (decide (h = 1)).toNat = h := by
  match h, hh with
  | 0, _ => rfl
  | 1, _ => rfl
theorem bitN {h : Nat} (hh : h < 2) : ((decide (h = 1)).toNat : Int) = (h : Int) := by
  match h, hh with
  | 0, _ => rfl
  | 1, _ => rfl
theorem info164 : ∃ i, Try.prog.info? 55 = some i ∧ i.zero = some (.agg z164) ∧ i.size = 164 ∧ i.bytes = 1312 := info_parts (by kernel_rfl)
theorem make164 (n : Nat) (hn : n ≤ 40) (w : World) : (Instr.makeSlice 51 (.int .i64 (n : Int)) (.int .i64 (n : Int))).run Try.prog w = .ok (.slice (some ⟨w.heap.size, 0, none⟩) n n) (w.alloc (.cells (memA n (fun _ _ _ => 0)) 55)) := by
  obtain ⟨i, hi, hz, hs, hb⟩ := info164
  rw [run_make w 51 55 i (.agg z164) Try.underlying51 hi hz .i64 .i64 (n : Int) (n : Int) (by omega) (by omega) (by rw [hb]; omega) (by omega), hs]
  rw [show ((n : Int)).toNat = n from rfl, show (Value.agg z164).cells = z164 from rfl, made164]
theorem ia88 (g L k : Nat) (hk : k < L) (w : World) : (Instr.indexAt 51 (.slice (some ⟨g, 0, none⟩) L L) (.int .i64 (k : Int))).run Try.prog w = .ok (.pointer (some ⟨g, k * 164, none⟩)) w := by
  have h1 : (0 : Int) ≤ (k : Int) ∧ (k : Int) < (L : Int) := by omega
  have hz : ∀ w, (sizeOf 55).run Try.prog w = .ok 164 w := Try.sizeOf55
  simp [Instr.indexAt, run_underlying Try.underlying51, Instr.sureAddr, asIntOf, hz, hk, Addr.add_lit]
theorem ia91 (g o q : Nat) (hq : q < 4) (w : World) : (Instr.indexAt 55 (.pointer (some ⟨g, o, none⟩)) (.int .i64 (q : Int))).run Try.prog w = .ok (.pointer (some ⟨g, o + q * 41, none⟩)) w := by
  have h1 : (0 : Int) ≤ (q : Int) ∧ (q : Int) < 4 := by omega
  have hz : ∀ w, (sizeOf 28).run Try.prog w = .ok 41 w := Try.sizeOf28
  simp [Instr.indexAt, run_underlying Try.underlying55, Instr.sureAddr, asIntOf, hz, h1, Addr.add_lit]
  intro h2; omega
theorem ia61 (g o m : Nat) (hm : m < 41) (w : World) : (Instr.indexAt 28 (.pointer (some ⟨g, o, none⟩)) (.int .i64 (m : Int))).run Try.prog w = .ok (.pointer (some ⟨g, o + m, none⟩)) w := by
  have h1 : (0 : Int) ≤ (m : Int) ∧ (m : Int) < 41 := by omega
  simp [Instr.indexAt, run_underlying Try.underlying28, Instr.sureAddr, asIntOf, Try.sizeOf3, h1, Addr.add_lit]
  intro h2; omega
set_option maxRecDepth 100000 in
set_option maxHeartbeats 6400000 in
theorem stEnds_any (s : List UInt8) (hg : stM s = true) (w : World) :
    Calls Try.prog 27 #[.string ⟨s.toArray⟩] w fun e w' => e = .returned (.slice (some ⟨w.heap.size, 0, none⟩) s.length s.length) ∧ w'.heap[w.heap.size]? = some (.cells (memA s.length (rwT s 0)) 55 (0, 0)) ∧ Below w.heap.size w w' := by
  obtain ⟨hn1, hn40, hst⟩ := stM_facts hg
  have hmk := make164 s.length hn40 w
  go_enter Try.func27, Try.ntmps27
  go_wp2_with fail
  clear hmk
  have hB : (w.alloc (.cells (memA s.length (fun _ _ _ => 0)) 55)).heap[w.heap.size]? = some (.cells (memA s.length (fun _ _ _ => 0)) 55 (0, 0)) := heap_alloc_new w _
  have hb0 : Below w.heap.size w (w.alloc (.cells (memA s.length (fun _ _ _ => 0)) 55)) := (Below.refl _ _).alloc (Nat.le_refl _) _
  generalize w.alloc (.cells (memA s.length (fun _ _ _ => 0)) 55) = w1 at *
  obtain ⟨n, hn⟩ : ∃ n, s.length = n + 1 := ⟨s.length - 1, by omega⟩
  generalize hgb : w.heap.size = g at *
  have HGB := Lib.hid hgb
  clear hgb
  go_loopw [5] (fun v wr => ∃ h : Nat, h ≤ 2 ∧ v = .int .i64 h ∧ Hid (wr.heap[g]? = some (.cells (memA s.length (iniT n h)) 55 (0, 0))) ∧ Below g w wr) (fun v _ => 2 - (intOf v).toNat)
  case atStart => exact ⟨0, by omega, rfl, by rw [Hid, iniT_zero]; exact hB, hb0⟩
  case round =>
    obtain ⟨h, hh, rfl, HB, hb⟩ := hrel
    by_cases hlt : h < 2
    · have hcl := cell_of_block HB.out (n * 164 + 2 * h * 41 + h)
      have hfr := frozen_of_block HB.out (n * 164 + 2 * h * 41 + h)
      rw [memA_get (iniT n h) (show n < s.length by omega) (show 2 * h < 4 by omega) (show h < 41 by omega)] at hcl
      have hst := block_set HB.out (n * 164 + 2 * h * 41 + h) (.int .i64 1)
      rw [show (Value.int .i64 1) = .int .i64 ((1 : Nat) : Int) from rfl, memA_set _ _ (show n < s.length by omega) (show 2 * h < 4 by omega) (show h < 41 by omega), iniT_next s.length n h hlt] at hst
      have HST := Lib.hid hst
      clear hst
      go_wp2_with fail
      go_roundw
      case rel => exact ⟨h + 1, by omega, by go_num, HST.out, hb.trans (Below.set _ _)⟩
      case measure => simp [intOf]; omega
    · obtain rfl : h = 2 := by omega
      have hB2 := HB.out
      rw [iniT_end s n hn] at hB2
      have HB2 := Lib.hid hB2
      clear hB2 HB hB hb0
      rw [show (((2 : Nat)) : Int) = (2 : Int) from rfl]
      go_wp2_with fail
      rw [show ((n : Int) + 1 - 2) = (n : Int) - 1 by omega]
      have hnl : n < s.length := by omega
      have HN := Lib.hid hn
      clear hn
      go_loopw [6] (fun v wi => ∃ c : Nat, c ≤ n ∧ v = .int .i64 ((c : Int) - 1) ∧ Hid (wi.heap[g]? = some (.cells (memA s.length (rwT s c)) 55 (0, 0))) ∧ Below g w wi) (fun v _ => (intOf v + 1).toNat)
      case atStart => exact ⟨n, Nat.le_refl _, rfl, HB2.out, hb⟩
      case round =>
        clear HB2 hb
        obtain ⟨c, hcn, rfl, HB, hb⟩ := hrel
        by_cases hc0 : c = 0
        · subst hc0
          go_wp2_with fail
          go_ret
          exact ⟨by rw [HGB.out]; rfl, by rw [HGB.out]; exact HB.out, by rw [HGB.out]; exact hb⟩
        · obtain ⟨k, rfl⟩ : ∃ k, c = k + 1 := ⟨c - 1, by omega⟩
          rw [show (((k + 1 : Nat) : Int) - 1) = (k : Int) by omega]
          have hB3 := HB.out
          rw [rw_st s s.length k] at hB3
          have HB3 := Lib.hid hB3
          clear HB hB3 hc0
          go_wp2_with fail
          go_loopw [7] (fun v wi => ∃ h : Nat, h ≤ 2 ∧ v = .int .i64 h ∧ Hid (wi.heap[g]? = some (.cells (memA s.length (stT s k (2 * h) (fun _ => 0))) 55 (0, 0))) ∧ Below g w wi) (fun v _ => 2 - (intOf v).toNat)
          case atStart => exact ⟨0, by omega, rfl, HB3.out, hb⟩
          case round =>
            clear HB3 hb
            obtain ⟨h, hh, rfl, HB, hb⟩ := hrel
            by_cases hh2 : h < 2
            · have hhz : (h : Int) < 2 := by omega
              go_wp2_with fail
              go_loopw [8] (fun v wi => ∃ x : Nat, x ≤ 2 ∧ v = .int .i64 x ∧ Hid (wi.heap[g]? = some (.cells (memA s.length (stT s k (2 * h + x) (fun _ => 0))) 55 (0, 0))) ∧ Below g w wi) (fun v _ => 2 - (intOf v).toNat)
              case atStart => exact ⟨0, by omega, rfl, HB.out, hb⟩
              case round =>
                clear HB hb
                obtain ⟨x, hx, rfl, HB, hb⟩ := hrel
                by_cases hx2 : x < 2
                · have hxz : (x : Int) < 2 := by omega
                  have hB5 := HB.out
                  rw [show memA s.length (stT s k (2 * h + x) (fun _ => 0)) = memA s.length (stT s k (2 * h + x) (pbT s k (decide (h = 1)) (decide (x = 1)) 0)) from st_congr _ _ _ _ (fun m _ => by simp [pbT])] at hB5
                  have HB5 := Lib.hid hB5
                  clear HB hB5
                  go_wp2_with fail
                  go_loopw [9] (fun v wi => ∃ b : Nat, b ≤ 2 ∧ v = .int .i64 b ∧ Hid (wi.heap[g]? = some (.cells (memA s.length (stT s k (2 * h + x) (pbT s k (decide (h = 1)) (decide (x = 1)) b))) 55 (0, 0))) ∧ Below g w wi) (fun v _ => 2 - (intOf v).toNat)
                  case atStart => exact ⟨0, by omega, rfl, HB5.out, hb⟩
                  case round =>
                    clear HB5 hb
                    obtain ⟨b, hb2, rfl, HB, hb⟩ := hrel
                    by_cases hbl : b < 2
                    · have hbz : (b : Int) < 2 := by omega
                      have hcan := fun w => stCan_any s hst (k + 1) (decide (h = 1)) (decide (x = 1)) (decide (b = 1)) w (by omega) hn40
                      rw [bitN hh2, bitN hx2, bitN hbl, show ((k + 1 : Nat) : Int) = (k : Int) + 1 by omega] at hcan
                      cases hcc : canM s (k + 1) (decide (h = 1)) (decide (x = 1)) (decide (b = 1)) with
                      | false =>
                        rw [hcc] at hcan
                        have hB6 := HB.out
                        rw [show memA s.length (stT s k (2 * h + x) (pbT s k (decide (h = 1)) (decide (x = 1)) b)) = memA s.length (stT s k (2 * h + x) (pbT s k (decide (h = 1)) (decide (x = 1)) (b + 1))) from st_congr _ _ _ _ (fun m _ => (pbT_skip s k _ _ b m hbl hcc).symm)] at hB6
                        have HB6 := Lib.hid hB6
                        have HCAN := Lib.hid hcan
                        clear HB hB6 hcan hcc
                        go_wp2_with fail
                        refine (HCAN.out _).mono ?_
                        rintro e w5 ⟨rfl, rfl⟩
                        go_wp2_with fail
                        go_roundw
                        case rel => exact ⟨b + 1, by omega, by go_num, HB6.out, hb⟩
                        case measure => simp [intOf]; omega
                      | true =>
                        rw [hcc] at hcan
                        have hB6 := HB.out
                        rw [show memA s.length (stT s k (2 * h + x) (pbT s k (decide (h = 1)) (decide (x = 1)) b)) = memA s.length (stT s k (2 * h + x) (jbT s k (decide (h = 1)) (decide (x = 1)) b 0)) from st_congr _ _ _ _ (fun m _ => (jbT_start s k _ _ b m).symm)] at hB6
                        have HB6 := Lib.hid hB6
                        have HCAN := Lib.hid hcan
                        have HCC := Lib.hid hcc
                        clear HB hB6 hcan hcc
                        go_wp2_with fail
                        refine (HCAN.out _).mono ?_
                        rintro e w5 ⟨rfl, rfl⟩
                        go_wp2_with fail
                        go_loopw [10] (fun v wi => ∃ j : Nat, j ≤ 41 - h ∧ v = .int .i64 j ∧ Hid (wi.heap[g]? = some (.cells (memA s.length (stT s k (2 * h + x) (jbT s k (decide (h = 1)) (decide (x = 1)) b j))) 55 (0, 0))) ∧ Below g w wi) (fun v _ => 41 - (intOf v).toNat)
                        case atStart => exact ⟨0, by omega, rfl, HB6.out, hb⟩
                        case round =>
                          clear HB6 hb
                          obtain ⟨j, hj, rfl, HB, hb⟩ := hrel
                          by_cases hjl : j + h < 41
                          · have hjz : (j : Int) + (h : Int) < 41 := by omega
                            go_upto_region 23 with fail
                            have hBd : wr.heap[g]? = some (.cells (memA s.length (stT s k (2 * h + x) (jbT s k (decide (h = 1)) (decide (x = 1)) b j))) 55 (0, 0)) := HB.out
                            have hc1 := cell_of_block hBd (k * 164 + (2 * h + x) * 41 + (j + h))
                            have hc2 := cell_of_block hBd ((k + 1) * 164 + (2 * x + b) * 41 + j)
                            have hf1 := frozen_of_block hBd (k * 164 + (2 * h + x) * 41 + (j + h))
                            rw [memA_get _ (show k < s.length by omega) (show 2 * h + x < 4 by omega) (show j + h < 41 by omega)] at hc1
                            rw [memA_get _ (show k + 1 < s.length by omega) (show 2 * x + b < 4 by omega) (show j < 41 by omega)] at hc2
                            have hs1 := block_set hBd (k * 164 + (2 * h + x) * 41 + (j + h)) (.int .i64 ((stT s k (2 * h + x) (jbT s k (decide (h = 1)) (decide (x = 1)) b j) k (2 * h + x) (j + h) + stT s k (2 * h + x) (jbT s k (decide (h = 1)) (decide (x = 1)) b j) (k + 1) (2 * x + b) j : Nat) : Int))
                            rw [memA_set _ _ (show k < s.length by omega) (show 2 * h + x < 4 by omega) (show j + h < 41 by omega), jb_next hh2 hx2 hbl] at hs1
                            have hv1 := stT_part s k (2 * h + x) (jbT s k (decide (h = 1)) (decide (x = 1)) b j) (j + h)
                            have hv2 := stT_next s k (2 * h + x) (jbT s k (decide (h = 1)) (decide (x = 1)) b j) (2 * x + b) j
                            have hl1 := jbT_le hn40 k (decide (h = 1)) (decide (x = 1)) b j (j + h)
                            have hl2 := enT_le hn40 (k + 1) (2 * x + b) j
                            rw [hv1] at hc1 hs1
                            rw [hv2] at hc2 hs1
                            have HS1 := Lib.hid hs1
                            clear hv1 hv2 hs1 hBd
                            generalize jbT s k (decide (h = 1)) (decide (x = 1)) b j (j + h) = vA at *
                            generalize enT s (k + 1) (2 * x + b) j = vB at *
                            obtain ⟨h2, hh2e⟩ : ∃ q, q = 2 * h := ⟨_, rfl⟩
                            obtain ⟨Q, hQe⟩ : ∃ q, q = 2 * h + x := ⟨_, rfl⟩
                            obtain ⟨M, hMe⟩ : ∃ q, q = j + h := ⟨_, rfl⟩
                            obtain ⟨K1, hKe⟩ : ∃ q, q = k + 1 := ⟨_, rfl⟩
                            obtain ⟨x2, hxe⟩ : ∃ q, q = 2 * x := ⟨_, rfl⟩
                            obtain ⟨Q2, hQ2e⟩ : ∃ q, q = 2 * x + b := ⟨_, rfl⟩
                            obtain ⟨vS, hvS⟩ : ∃ q, q = vA + vB := ⟨_, rfl⟩
                            rw [← hQe, ← hMe] at hc1 hf1
                            rw [← hKe, ← hQ2e] at hc2
                            have HS2 := HS1.out
                            rw [← hvS, ← hQe, ← hMe] at HS2
                            have HS3 := Lib.hid HS2
                            have w1 : IntKind.i64.wrap (2 * (h : Int)) = (h2 : Int) := by rw [IntWalk.i64_in _ (by omega)]; omega
                            have w2 : IntKind.i64.wrap ((h2 : Int) + (x : Int)) = (Q : Int) := by rw [IntWalk.i64_in _ (by omega)]; omega
                            have w3 : IntKind.i64.wrap ((j : Int) + (h : Int)) = (M : Int) := by rw [IntWalk.i64_in _ (by omega)]; omega
                            have w4 : IntKind.i64.wrap ((k : Int) + 1) = (K1 : Int) := by rw [IntWalk.i64_in _ (by omega)]; omega
                            have w5 : IntKind.i64.wrap (2 * (x : Int)) = (x2 : Int) := by rw [IntWalk.i64_in _ (by omega)]; omega
                            have w6 : IntKind.i64.wrap ((x2 : Int) + (b : Int)) = (Q2 : Int) := by rw [IntWalk.i64_in _ (by omega)]; omega
                            have w7 : IntKind.i64.wrap ((vA : Int) + (vB : Int)) = (vS : Int) := by rw [IntWalk.i64_in _ (by omega)]; omega
                            have i1 := fun w => ia88 g s.length k (by omega) w
                            have i2 := fun w => ia91 g (k * 164) Q (by omega) w
                            have i3 := fun w => ia61 g (k * 164 + Q * 41) M (by omega) w
                            have i4 := fun w => ia88 g s.length K1 (by omega) w
                            have i5 := fun w => ia91 g (K1 * 164) Q2 (by omega) w
                            have i6 := fun w => ia61 g (K1 * 164 + Q2 * 41) j (by omega) w
                            have HQe := Lib.hid hQe
                            have HMe := Lib.hid hMe
                            have HvS := Lib.hid hvS
                            clear hQe hMe hvS hh2e hKe hxe hQ2e HS2
                            go_still_tail 29, (by kernel_rfl)
                            change wpList _ _ _ _ _ wr.drew
                            have hc1d : wr.drew.cell? ⟨g, k * 164 + Q * 41 + M, none⟩ = some (.int .i64 (vA : Int)) := hc1
                            have hf1d : wr.drew.frozen? ⟨g, k * 164 + Q * 41 + M, none⟩ = false := hf1
                            have hS4 : Hid ((wr.drew.setCell ⟨g, k * 164 + Q * 41 + M, none⟩ (.int .i64 (vS : Int))).heap[g]? = some (.cells (memA s.length (stT s k Q (jbT s k (decide (h = 1)) (decide (x = 1)) b (j + 1)))) 55 (0, 0))) := HS3.out
                            have hbd : Below g w wr.drew := hb.drew
                            clear w1 w2 w3 w4 w5 w6 w7 i1 i2 i3 i4 i5 i6
                            generalize wr.drew = wd at *
                            go_wp2_with fail
                            go_roundw
                            case rel => exact ⟨j + 1, by omega, by go_num, by rw [← HQe.out]; exact hS4.out, hbd.trans (Below.set _ _)⟩
                            case measure => simp [intOf]; omega
                          · have hB7 := HB.out
                            have hhN := bitM hh2
                            rw [show memA s.length (stT s k (2 * h + x) (jbT s k (decide (h = 1)) (decide (x = 1)) b j)) = memA s.length (stT s k (2 * h + x) (pbT s k (decide (h = 1)) (decide (x = 1)) (b + 1))) from st_congr _ _ _ _ (fun m hm => jbT_end s k _ _ b j m hbl hm (by omega) HCC.out)] at hB7
                            have HB7 := Lib.hid hB7
                            clear hB7 HB hhN
                            have hjz : ¬ ((j : Int) + (h : Int) < 41) := by omega
                            go_wp2_with fail
                            go_roundw
                            case rel => exact ⟨b + 1, by omega, by go_num, HB7.out, hb⟩
                            case measure => simp [intOf]; omega
                    · obtain rfl : b = 2 := by omega
                      have hB8 := HB.out
                      rw [st_part s s.length k (2 * h + x) _ (fun m _ => by rw [pbT_end (by omega), enT_part hh2 hx2]), show 2 * h + x + 1 = 2 * h + (x + 1) by omega] at hB8
                      have HB8 := Lib.hid hB8
                      clear hB8 HB
                      go_wp2_with fail
                      go_roundw
                      case rel => exact ⟨x + 1, by omega, by go_num, HB8.out, hb⟩
                      case measure => simp [intOf]; omega
                · obtain rfl : x = 2 := by omega
                  have hB9 := HB.out
                  rw [show 2 * h + 2 = 2 * (h + 1) by omega] at hB9
                  have HB9 := Lib.hid hB9
                  clear hB9 HB
                  go_wp2_with fail
                  go_roundw
                  case rel => exact ⟨h + 1, by omega, by go_num, HB9.out, hb⟩
                  case measure => simp [intOf]; omega
            · obtain rfl : h = 2 := by omega
              have hBA := HB.out
              rw [show 2 * 2 = 4 from rfl, st_rw] at hBA
              have HBA := Lib.hid hBA
              clear hBA HB
              go_wp2_with fail
              go_roundw
              case rel => exact ⟨k, by omega, rfl, HBA.out, hb⟩
              case measure => simp [intOf]
end Go.Proofs.Ythlbplmghjaeoaf
