/- Strips: how many lists have numbers of a sum, by the model. -/
import Derived.Test.YtajabfegeeepeaaMA
import Derived.Test.YtajabfegeeepeaaHC
import Derived.Laws.Rows
import Derived.Laws.CopyRow
import Derived.StillTailTactics
import Derived.Deep.QuietTactic
import Derived.BigQuiet
import Derived.IntWalk
namespace Go.Proofs.Ytajabfegeeepeaa
open Go.RowKit

/-- A table of two rows of 101 numbers. -/
def tbL (F : Nat → Nat → Nat) : List Value := (List.range 202).map fun i => Value.int .i64 (F (i / 101) (i % 101) : Nat)
def tbA (F : Nat → Nat → Nat) : Array Value := (tbL F).toArray
theorem tbA_size (F : Nat → Nat → Nat) : (tbA F).size = 202 := by simp [tbA, tbL]
theorem tbA_get (F : Nat → Nat → Nat) {r q : Nat} (hr : r < 2) (hq : q < 101) : (tbA F)[r * 101 + q]? = some (.int .i64 (F r q : Nat)) := by
  have h1 : r * 101 + q < 202 := by omega
  have e1 : (r * 101 + q) / 101 = r := by omega
  have e2 : (r * 101 + q) % 101 = q := by omega
  simp [tbA, tbL, h1, e1, e2]
theorem tbA_congr {F G : Nat → Nat → Nat} (h : ∀ r q, r < 2 → q < 101 → F r q = G r q) : tbA F = tbA G := by
  have : tbL F = tbL G := List.map_congr_left fun i hi => by
    have hi' : i < 202 := by simpa using hi
    rw [h (i / 101) (i % 101) (by omega) (by omega)]
  rw [tbA, tbA, this]
theorem tbA_set (F : Nat → Nat → Nat) {r q : Nat} (v : Nat) (hr : r < 2) (hq : q < 101) :
    (tbA F).setIfInBounds (r * 101 + q) (.int .i64 (v : Nat)) = tbA (fun r' q' => if r' = r ∧ q' = q then v else F r' q') := by
  apply Array.ext'
  simp only [tbA, List.setIfInBounds_toArray]
  apply List.ext_getElem?
  intro i
  rw [List.getElem?_set]
  by_cases hi : i < 202
  · by_cases h : r * 101 + q = i
    · have e1 : i / 101 = r := by omega
      have e2 : i % 101 = q := by omega
      simp [tbL, hi, h, e1, e2]
    · have hne : ¬ (i / 101 = r ∧ i % 101 = q) := by omega
      simp [tbL, hi, h, hne]
  · have h : r * 101 + q ≠ i := by omega
    simp [tbL, hi, h]
theorem tbA_one (F : Nat → Nat → Nat) : (tbA F).all (·.oneCell') = true := by
  rw [Array.all_eq_true]
  intro i hi
  simp [tbA, tbL, Value.oneCell']

/-- The next table while it is made: what is ahead of (h, k) has been added. -/
def nxT (u : Nat → Nat) (h k r q : Nat) : Nat := (if r < h ∨ (r = h ∧ q < k) then u q else 0) + (if 1 ≤ q ∧ (1 - r < h ∨ (1 - r = h ∧ q - 1 < k)) then u (q - 1) else 0)
/-- Behind the first of two stores. -/
def mdT (u : Nat → Nat) (h k r q : Nat) : Nat := if r = h ∧ q = k then nxT u h k r q + u k else nxT u h k r q
theorem nxT_zero (u : Nat → Nat) : tbA (nxT u 0 0) = tbA (fun _ _ => 0) := tbA_congr fun r q _ _ => by
  unfold nxT
  split <;> split <;> omega
theorem nxT_row (u : Nat → Nat) (h : Nat) : tbA (nxT u h 101) = tbA (nxT u (h + 1) 0) := tbA_congr fun r q _ hq => by
  unfold nxT
  repeat' split
  all_goals omega
theorem nxT_all (j : Nat) : tbA (nxT (binU j) 2 0) = tbA (fun _ q => binU (j + 1) q) := tbA_congr fun r q hr hq => by
  unfold nxT
  rw [binU]
  unfold shiftF
  repeat' split
  all_goals omega
/-- The first store. -/
theorem md_set (u : Nat → Nat) (h k : Nat) : tbA (fun r' q' => if r' = h ∧ q' = k then nxT u h k h k + u k else nxT u h k r' q') = tbA (mdT u h k) := tbA_congr fun r q _ _ => by
  unfold mdT
  by_cases e : r = h ∧ q = k
  · rw [if_pos e, if_pos e, e.1, e.2]
  · rw [if_neg e, if_neg e]
theorem nx_step (u : Nat → Nat) {h k r q : Nat} (hh : h < 2) (hr : r < 2) : nxT u h (k + 1) r q = mdT u h k r q + (if r = 1 - h ∧ q = k + 1 then u k else 0) := by
  by_cases e1 : r = h ∧ q = k
  · obtain ⟨rfl, rfl⟩ := e1
    unfold mdT nxT
    repeat' split
    all_goals omega
  · by_cases e3 : r = 1 - h ∧ q = k + 1
    · obtain ⟨rfl, rfl⟩ := e3
      unfold mdT nxT
      rw [Nat.add_sub_cancel]
      repeat' split
      all_goals omega
    · unfold mdT nxT
      repeat' split
      all_goals omega
/-- The second store. -/
theorem nx_set (u : Nat → Nat) {h k : Nat} (hh : h < 2) : tbA (fun r' q' => if r' = 1 - h ∧ q' = k + 1 then mdT u h k (1 - h) (k + 1) + u k else mdT u h k r' q') = tbA (nxT u h (k + 1)) := tbA_congr fun r q hr _ => by
  rw [nx_step u hh hr]
  by_cases e : r = 1 - h ∧ q = k + 1
  · rw [if_pos e, if_pos e, e.1, e.2]
  · rw [if_neg e, if_neg e, Nat.add_zero]
theorem nx_last (u : Nat → Nat) {h : Nat} (hh : h < 2) : tbA (mdT u h 100) = tbA (nxT u h 101) := tbA_congr fun r q hr hq => by
  rw [nx_step u hh hr, if_neg (by omega), Nat.add_zero]
theorem nxT_le {u : Nat → Nat} (hu : ∀ k, u k ≤ 1099511627776) (h k r q : Nat) : nxT u h k r q ≤ 2199023255552 := by
  unfold nxT
  have h1 := hu q
  have h2 := hu (q - 1)
  split <;> split <;> omega
theorem mdT_le {u : Nat → Nat} (hu : ∀ k, u k ≤ 1099511627776) (h k r q : Nat) : mdT u h k r q ≤ 4398046511104 := by
  unfold mdT
  have h1 := nxT_le hu h k r q
  have h2 := hu k
  split <;> omega

theorem tbZero (w : World) : (zeroValue 64).run Try.prog w = .ok (.agg (tbA fun _ _ => 0)) w := by kernel_rfl
theorem tbInfo : (Try.prog.info? 64).map (·.size) = some 202 := by kernel_rfl
theorem tbInfoA (F : Nat → Nat → Nat) : (Try.prog.info? 64).map (·.size) = some (tbA F).size := by rw [tbA_size]; exact tbInfo
theorem iaT (g r : Nat) (hr : r < 2) (w : World) : (Instr.indexAt 64 (.pointer (some ⟨g, 0, none⟩)) (.int .i64 (r : Int))).run Try.prog w = .ok (.pointer (some ⟨g, r * 101, none⟩)) w := by
  have h1 : (0 : Int) ≤ (r : Int) ∧ (r : Int) < 2 := by omega
  have hz : ∀ w, (sizeOf 63).run Try.prog w = .ok 101 w := Try.sizeOf63
  simp [Instr.indexAt, run_underlying Try.underlying64, Instr.sureAddr, asIntOf, hz, h1, Addr.add_lit]
  intro h2; omega
theorem iaR (g o m : Nat) (hm : m < 101) (w : World) : (Instr.indexAt 63 (.pointer (some ⟨g, o, none⟩)) (.int .i64 (m : Int))).run Try.prog w = .ok (.pointer (some ⟨g, o + m, none⟩)) w := by
  have h1 : (0 : Int) ≤ (m : Int) ∧ (m : Int) < 101 := by omega
  simp [Instr.indexAt, run_underlying Try.underlying63, Instr.sureAddr, asIntOf, Try.sizeOf3, h1, Addr.add_lit]
  intro h2; omega
set_option maxRecDepth 100000 in
set_option maxHeartbeats 3200000 in
theorem sCountStripSums_any (c d : Int) (w : World) :
    Calls Try.prog 26 #[.int .i64 c, .int .i64 d] w fun e w' => e = .returned (.tuple #[.int .i64 (cssV c d : Nat), .bool (cssB c d)]) ∧ Below w.heap.size w w' := by
  have hz := tbZero
  by_cases hc : 1 ≤ c ∧ c ≤ 40
  · have HC := Lib.hid fun w => l1In_yes c 1 40 w hc
    by_cases hd : 0 ≤ d ∧ d ≤ 100
    · have HD := Lib.hid fun w => l1In_yes d 0 100 w hd
      obtain ⟨n, rfl⟩ : ∃ n : Nat, c = (n : Int) := ⟨c.toNat, by omega⟩
      obtain ⟨k0, rfl⟩ : ∃ k : Nat, d = (k : Int) := ⟨d.toNat, by omega⟩
      obtain ⟨e1, e2⟩ := css_yes (n := n) (k := k0) (by omega) (by omega) (by omega)
      rw [e1, e2]
      have hn1 : 1 ≤ n := by omega
      have hn40 : n ≤ 40 := by omega
      have hk0 : k0 < 101 := by omega
      have HL := Lib.hid fun j (hj : j ≤ 40) k => binU_small hj k
      obtain ⟨V, hV⟩ : ∃ V, V = 2 * binU (n - 1) k0 := ⟨_, rfl⟩
      rw [← hV]
      have HV := Lib.hid hV
      clear e1 e2 hc hd hV
      go_enter Try.func26, Try.ntmps26
      go_wp2_with fail
      refine (HC.out _).mono ?_
      rintro e w1 ⟨rfl, rfl⟩
      go_wp2_with fail
      refine (HD.out _).mono ?_
      rintro e w1 ⟨rfl, rfl⟩
      go_upto_region 4 with fail
      have hb0 : Below w.heap.size w (w.alloc (.cells (tbA fun _ _ => 0) 64)) := (Below.refl _ _).alloc (Nat.le_refl _) _
      have hA0 := heap_alloc_new w (.cells (tbA fun _ _ => 0) 64)
      generalize w.alloc (.cells (tbA fun _ _ => 0) 64) = w0 at *
      have ha := cell_of_block hA0 (0 * 101 + 0)
      rw [tbA_get _ (by decide) (by decide)] at ha
      have hfa := frozen_of_block hA0 (0 * 101 + 0)
      have hA1 := block_set hA0 (0 * 101 + 0) (.int .i64 ((1 : Nat) : Int))
      rw [tbA_set _ _ (by decide) (by decide)] at hA1
      have hb := cell_of_block hA1 (1 * 101 + 0)
      rw [tbA_get _ (by decide) (by decide)] at hb
      have hfb := frozen_of_block hA1 (1 * 101 + 0)
      have hA2 := block_set hA1 (1 * 101 + 0) (.int .i64 ((1 : Nat) : Int))
      rw [tbA_set _ _ (by decide) (by decide), tbA_congr (G := fun _ q => binU 0 q) (fun r q hr _ => by
        show _ = oneAt0 q
        unfold oneAt0
        match r, hr with
        | 0, _ => by_cases h : q = 0 <;> simp [h]
        | 1, _ => by_cases h : q = 0 <;> simp [h])] at hA2
      have hA3 : Hid (((w0.setCell ⟨w.heap.size, 0, none⟩ (.int .i64 1)).setCell ⟨w.heap.size, 101, none⟩ (.int .i64 1)).heap[w.heap.size]? = some (.cells (tbA fun _ q => binU 0 q) 64 (0, 0))) := hA2
      have i0 : ∀ w', (Instr.indexAt 64 (.pointer (some ⟨w.heap.size, 0, none⟩)) (.int .i64 0)).run Try.prog w' = .ok (.pointer (some ⟨w.heap.size, 0, none⟩)) w' := fun w' => iaT w.heap.size 0 (by decide) w'
      have i1 : ∀ w', (Instr.indexAt 64 (.pointer (some ⟨w.heap.size, 0, none⟩)) (.int .i64 1)).run Try.prog w' = .ok (.pointer (some ⟨w.heap.size, 101, none⟩)) w' := fun w' => iaT w.heap.size 1 (by decide) w'
      have hfa' : w0.frozen? ⟨w.heap.size, 0, none⟩ = false := hfa
      have hfb' : (w0.setCell ⟨w.heap.size, 0, none⟩ (.int .i64 1)).frozen? ⟨w.heap.size, 101, none⟩ = false := hfb
      have ha' : w0.cell? ⟨w.heap.size, 0, none⟩ = some (.int .i64 0) := ha
      have hb' : ∃ v, (w0.setCell ⟨w.heap.size, 0, none⟩ (.int .i64 1)).cell? ⟨w.heap.size, 101, none⟩ = some v := ⟨_, hb⟩
      obtain ⟨vb, hvb⟩ := hb'
      clear hA0 hA1 hA2 ha hfa hb hfb
      go_upto_region 6 with fail
      have hbw : Below w.heap.size w ((w0.setCell ⟨w.heap.size, 0, none⟩ (.int .i64 1)).setCell ⟨w.heap.size, 101, none⟩ (.int .i64 1)) := (hb0.trans (Below.set 0 _)).trans (Below.set 101 _)
      generalize (w0.setCell ⟨w.heap.size, 0, none⟩ (.int .i64 1)).setCell ⟨w.heap.size, 101, none⟩ (.int .i64 1) = w2 at *
      generalize hG : w.heap.size = G at *
      have HGE := Lib.hid hG
      clear hG ha' hfa' hvb hfb' i0 i1 hb0
      go_loopw [0] (fun c wr => ∃ j : Nat, j + 1 ≤ n ∧ c = .int .i64 ((n - j : Nat) : Int) ∧ Hid (wr.heap[G]? = some (.cells (tbA fun _ q => binU j q) 64 (0, 0))) ∧ Below G w wr) (fun c _ => (intOf c).toNat)
      case atStart => exact ⟨0, hn1, rfl, hA3, hbw⟩
      case round =>
        clear hA3 hbw
        obtain ⟨j, hj, rfl, HA, hb⟩ := hrel
        by_cases hlt : j + 1 < n
        · obtain ⟨M, hM⟩ : ∃ M, M = n - j := ⟨_, rfl⟩
          obtain ⟨m, hm⟩ : ∃ m, m = n - (j + 1) := ⟨_, rfl⟩
          have HM1 := Lib.hid hm
          rw [← hM]
          have hgt : (M : Int) > 1 := by omega
          have hgt' : (1 : Int) < (M : Int) := by omega
          have hsub : (M : Int) - 1 = (m : Int) := by omega
          have hM2 : M ≤ 40 := by omega
          have hmM : m < M := by omega
          have hu := fun k => HL.out j (by omega) k
          obtain ⟨u, hue⟩ : ∃ u, u = binU j := ⟨_, rfl⟩
          have HUE := Lib.hid hue
          have hAu := HA.out
          rw [show (fun (_ : Nat) q => binU j q) = (fun (_ : Nat) q => u q) by rw [hue]] at hAu
          rw [← hue] at hu
          have HAu := Lib.hid hAu
          clear hm hM hAu HA hue
          go_upto_region 9 with fail
          have hN0 := heap_alloc_new wr (.cells (tbA fun _ _ => 0) 64)
          have hbn : Below wr.heap.size wr (wr.alloc (.cells (tbA fun _ _ => 0) 64)) := (Below.refl _ _).alloc (Nat.le_refl _) _
          have HA1 := Lib.hid ((hbn.block _ (block_lt HAu.out)).trans HAu.out)
          have hb1 : Below G w (wr.alloc (.cells (tbA fun _ _ => 0) 64)) := hb.trans (hbn.mono (by have := hb.size; have := HGE.out; omega))
          have hGN : G < wr.heap.size := block_lt HAu.out
          have HN0 : Hid ((wr.alloc (.cells (tbA fun _ _ => 0) 64)).heap[wr.heap.size]? = some (.cells (tbA (nxT u 0 0)) 64 (0, 0))) := by
            rw [Hid, nxT_zero]; exact hN0
          clear hN0 hbn HAu
          generalize wr.alloc (.cells (tbA fun _ _ => 0) 64) = w3 at *
          generalize wr.heap.size = N at *
          go_wp2_with fail
          go_loopw [8] (fun v wi => ∃ h : Nat, h ≤ 2 ∧ v = .int .i64 h ∧ Hid (wi.heap[N]? = some (.cells (tbA (nxT u h 0)) 64 (0, 0))) ∧ Hid (wi.heap[G]? = some (.cells (tbA fun _ q => u q) 64 (0, 0))) ∧ Below G w wi) (fun v _ => 2 - (intOf v).toNat)
          case atStart => exact ⟨0, by omega, rfl, HN0, HA1, hb1⟩
          case round =>
            clear HN0 HA1 hb1
            obtain ⟨h, hh, rfl, HN, HA, hbh⟩ := hrel
            by_cases hh2 : h < 2
            · have hhz : (h : Int) < 2 := by omega
              go_wp2_with fail
              go_loopw [9] (fun v wi => ∃ k : Nat, k ≤ 101 ∧ v = .int .i64 k ∧ Hid (wi.heap[N]? = some (.cells (tbA (nxT u h k)) 64 (0, 0))) ∧ Hid (wi.heap[G]? = some (.cells (tbA fun _ q => u q) 64 (0, 0))) ∧ Below G w wi) (fun v _ => 101 - (intOf v).toNat)
              case atStart => exact ⟨0, by omega, rfl, HN.out, HA.out, hbh⟩
              case round =>
                clear HN HA hbh
                obtain ⟨k, hk, rfl, HN, HA, hbk⟩ := hrel
                by_cases hk101 : k < 101
                · have hkz : (k : Int) ≤ 100 := by omega
                  go_upto_region 15 with fail
                  have hc1 := cell_of_block HN.out (h * 101 + k)
                  rw [tbA_get _ hh2 hk101] at hc1
                  have hf1 := frozen_of_block HN.out (h * 101 + k)
                  have hc2 := cell_of_block HA.out (h * 101 + k)
                  rw [tbA_get _ hh2 hk101] at hc2
                  have hs1 := block_set HN.out (h * 101 + k) (.int .i64 ((nxT u h k h k + u k : Nat) : Int))
                  rw [tbA_set _ _ hh2 hk101, md_set] at hs1
                  have hl1 := nxT_le hu h k h k
                  have hl2 := hu k
                  have HS1 := Lib.hid hs1
                  obtain ⟨vA, hvA⟩ : ∃ q, q = nxT u h k h k := ⟨_, rfl⟩
                  obtain ⟨vS, hvS⟩ : ∃ q, q = nxT u h k h k + u k := ⟨_, rfl⟩
                  rw [← hvS] at hs1
                  rw [← hvA] at hc1 hl1 hvS
                  generalize u k = vB at *
                  have w7 : IntKind.i64.wrap ((vA : Int) + (vB : Int)) = (vS : Int) := by rw [IntWalk.i64_in _ (by omega)]; omega
                  have i1 := fun w => iaT N h hh2 w
                  have i2 := fun w => iaR N (h * 101) k hk101 w
                  have i3 := fun w => iaT G h hh2 w
                  have i4 := fun w => iaR G (h * 101) k hk101 w
                  have HS2 := Lib.hid hs1
                  clear hvA hvS hs1 HS1
                  go_still_tail 13, (by kernel_rfl)
                  change wpList _ _ _ _ _ wr.drew
                  have hc1d : wr.drew.cell? ⟨N, h * 101 + k, none⟩ = some (.int .i64 (vA : Int)) := hc1
                  have hf1d : wr.drew.frozen? ⟨N, h * 101 + k, none⟩ = false := hf1
                  have HN4 : Hid ((wr.setCell ⟨N, h * 101 + k, none⟩ (.int .i64 (vS : Int))).drew.heap[N]? = some (.cells (tbA (mdT u h k)) 64 (0, 0))) := HS2.out
                  have HA4 : Hid ((wr.setCell ⟨N, h * 101 + k, none⟩ (.int .i64 (vS : Int))).drew.heap[G]? = some (.cells (tbA fun _ q => u q) 64 (0, 0))) := (awayH (w := wr) (by omega) _ _).trans HA.out
                  have hb4 : Below G w (wr.setCell ⟨N, h * 101 + k, none⟩ (.int .i64 (vS : Int))).drew := (hbk.trans ((Below.set _ _).mono (by omega))).drew
                  clear w7 i1 i2 i3 i4 hc1 hf1 hc2 HS2 HN HA hbk
                  by_cases hk100 : k < 100
                  · have hkz2 : (k : Int) < 100 := by omega
                    go_upto_region 17 with fail
                    clear hc1d hf1d
                    generalize (wr.setCell ⟨N, h * 101 + k, none⟩ (.int .i64 (vS : Int))).drew = w4 at *
                    obtain ⟨h', hh'⟩ : ∃ q, q = 1 - h := ⟨_, rfl⟩
                    have hh'2 : h' < 2 := by omega
                    have hc1 := cell_of_block HN4.out (h' * 101 + (k + 1))
                    rw [tbA_get _ hh'2 (show k + 1 < 101 by omega)] at hc1
                    have hf1 := frozen_of_block HN4.out (h' * 101 + (k + 1))
                    have hc2 := cell_of_block HA4.out (h * 101 + k)
                    rw [tbA_get _ hh2 hk101] at hc2
                    have hs1 := block_set HN4.out (h' * 101 + (k + 1)) (.int .i64 ((mdT u h k h' (k + 1) + u k : Nat) : Int))
                    rw [tbA_set _ _ hh'2 (show k + 1 < 101 by omega), show tbA (fun r' q' => if r' = h' ∧ q' = k + 1 then mdT u h k h' (k + 1) + u k else mdT u h k r' q') = tbA (nxT u h (k + 1)) by rw [hh']; exact nx_set u hh2] at hs1
                    have hl1 := mdT_le hu h k h' (k + 1)
                    have hl2 := hu k
                    obtain ⟨vA, hvA⟩ : ∃ q, q = mdT u h k h' (k + 1) := ⟨_, rfl⟩
                    obtain ⟨vS, hvS⟩ : ∃ q, q = mdT u h k h' (k + 1) + u k := ⟨_, rfl⟩
                    rw [← hvS] at hs1
                    rw [← hvA] at hc1 hl1 hvS
                    generalize u k = vB at *
                    obtain ⟨K1, hK1⟩ : ∃ q, q = k + 1 := ⟨_, rfl⟩
                    have hK1l : K1 < 101 := by omega
                    rw [← hK1] at hc1 hf1 hs1
                    have HK1 := Lib.hid hK1
                    have w5 : IntKind.i64.wrap (1 - (h : Int)) = (h' : Int) := by rw [IntWalk.i64_in _ (by omega)]; omega
                    have w6 : IntKind.i64.wrap ((k : Int) + 1) = (K1 : Int) := by rw [IntWalk.i64_in _ (by omega)]; omega
                    have w7 : IntKind.i64.wrap ((vA : Int) + (vB : Int)) = (vS : Int) := by rw [IntWalk.i64_in _ (by omega)]; omega
                    have i1 := fun w => iaT N h' hh'2 w
                    have i2 := fun w => iaR N (h' * 101) K1 hK1l w
                    have i3 := fun w => iaT G h hh2 w
                    have i4 := fun w => iaR G (h * 101) k hk101 w
                    have HS2 := Lib.hid hs1
                    clear hvA hvS hs1 hh' hK1
                    go_still_tail 15, (by kernel_rfl)
                    change wpList _ _ _ _ _ w4.drew
                    have hc1d : w4.drew.cell? ⟨N, h' * 101 + K1, none⟩ = some (.int .i64 (vA : Int)) := hc1
                    have hf1d : w4.drew.frozen? ⟨N, h' * 101 + K1, none⟩ = false := hf1
                    have HN5 : Hid ((w4.setCell ⟨N, h' * 101 + K1, none⟩ (.int .i64 (vS : Int))).drew.heap[N]? = some (.cells (tbA (nxT u h (k + 1))) 64 (0, 0))) := by
                      have q := HS2.out
                      rw [HK1.out] at q ⊢
                      exact q
                    have HA5 : Hid ((w4.setCell ⟨N, h' * 101 + K1, none⟩ (.int .i64 (vS : Int))).drew.heap[G]? = some (.cells (tbA fun _ q => u q) 64 (0, 0))) := (awayH (w := w4) (by omega) _ _).trans HA4.out
                    have hb5 : Below G w (w4.setCell ⟨N, h' * 101 + K1, none⟩ (.int .i64 (vS : Int))).drew := (hb4.trans ((Below.set _ _).mono (by omega))).drew
                    clear w5 w6 w7 i1 i2 i3 i4 hc1 hf1 hc2 HS2 HN4 HA4 hb4
                    go_wp2_with fail
                    go_roundw
                    case rel => exact ⟨k + 1, by omega, by go_num, HN5.out, HA5.out, hb5⟩
                    case measure => simp [intOf]; omega
                  · obtain rfl : k = 100 := by omega
                    have hkz2 : ¬ ((100 : Nat) : Int) < 100 := by omega
                    rw [nx_last u hh2] at HN4
                    go_wp2_with fail
                    go_roundw
                    case rel => exact ⟨101, by omega, rfl, HN4.out, HA4.out, hb4⟩
                    case measure => simp [intOf]
                · obtain rfl : k = 101 := by omega
                  have hkz : ¬ (((101 : Nat) : Int) ≤ 100) := by omega
                  rw [nxT_row u h] at HN
                  go_wp2_with fail
                  go_roundw
                  case rel => exact ⟨h + 1, by omega, by go_num, HN.out, HA.out, hbk⟩
                  case measure => simp [intOf]; omega
            · obtain rfl : h = 2 := by omega
              have hNe := HN.out
              rw [HUE.out, nxT_all j] at hNe
              have hAe := HA.out
              clear HN HA
              go_wp2_with (first
                | (refine wpList_load_row rfl _ _ rfl N rfl 64 (tbA fun _ q => binU (j + 1) q) (0, 0) _ hNe Try.underlying64 rfl (tbInfoA _) ?_)
                | (refine wpList_store_row rfl _ _ _ rfl G (tbA fun _ q => binU (j + 1) q) rfl rfl 64 _ hAe (tbInfoA _) (by simp only [tbA_size]) (tbA_one _) ?_))
              go_roundw
              case rel => exact ⟨j + 1, by omega, by rw [← HM1.out], setRow_heap wr _ _ _ _ _ hAe, below_setRow hbh (Nat.le_refl _) _⟩
              case measure => simp [intOf]; omega
        · have hle1 : ¬ (((n - j : Nat) : Int) > 1) := by omega
          have hle1' : ¬ ((1 : Int) < ((n - j : Nat) : Int)) := by omega
          have hjn : j = n - 1 := by omega
          have hu := HL.out j (by omega) k0
          have hc1 := cell_of_block HA.out (0 * 101 + k0)
          have hc2 := cell_of_block HA.out (1 * 101 + k0)
          rw [tbA_get _ (by decide) hk0] at hc1 hc2
          rw [← hjn] at HV
          obtain ⟨vU, hvU⟩ : ∃ q, q = binU j k0 := ⟨_, rfl⟩
          rw [← hvU] at hu hc1 hc2 HV
          have hc1' : wr.cell? ⟨G, 0 + k0, none⟩ = some (.int .i64 (vU : Int)) := hc1
          have hc2' : wr.cell? ⟨G, 101 + k0, none⟩ = some (.int .i64 (vU : Int)) := hc2
          have i0 : ∀ w', (Instr.indexAt 64 (.pointer (some ⟨G, 0, none⟩)) (.int .i64 0)).run Try.prog w' = .ok (.pointer (some ⟨G, 0, none⟩)) w' := fun w' => iaT G 0 (by decide) w'
          have i1 : ∀ w', (Instr.indexAt 64 (.pointer (some ⟨G, 0, none⟩)) (.int .i64 1)).run Try.prog w' = .ok (.pointer (some ⟨G, 101, none⟩)) w' := fun w' => iaT G 1 (by decide) w'
          have hc1z : wr.cell? ⟨G, k0, none⟩ = some (.int .i64 (vU : Int)) := by
            have q := hc1'
            rw [Nat.zero_add] at q
            exact q
          have hsum : (vU : Int) + (vU : Int) = (V : Int) := by have := HV.out; omega
          clear hc1 hc2 hc1' hvU
          have w7 : IntKind.i64.wrap ((vU : Int) + (vU : Int)) = (V : Int) := by rw [IntWalk.i64_in _ (by omega)]; omega
          have i2 := fun w => iaR G 101 k0 hk0 w
          go_wp2_with fail
          go_quiet (fail)
          have hbq := below_drewN hb nq
          generalize wr.drewN nq = wq at *
          go_wp2_with fail
          go_ret2
          exact ⟨rfl, by rw [HGE.out]; exact hbq⟩
    · have e : cssB c d = false := css_out (fun q => hd q.2)
      have HD := Lib.hid fun w => l1In_no d 0 100 w hd
      rw [css_no e, e]
      clear e hc hd
      go_enter Try.func26, Try.ntmps26
      go_wp2_with fail
      refine (HC.out _).mono ?_
      rintro e w1 ⟨rfl, rfl⟩
      go_wp2_with fail
      refine (HD.out _).mono ?_
      rintro e w1 ⟨rfl, rfl⟩
      go_wp2_with fail
      go_ret2
      exact ⟨rfl, Below.refl _ _⟩
  · have e : cssB c d = false := css_out (fun q => hc q.1)
    have HC := Lib.hid fun w => l1In_no c 1 40 w hc
    rw [css_no e, e]
    clear e hc
    go_enter Try.func26, Try.ntmps26
    go_wp2_with fail
    refine (HC.out _).mono ?_
    rintro e w1 ⟨rfl, rfl⟩
    go_wp2_with fail
    go_ret2
    exact ⟨rfl, Below.refl _ _⟩
end Go.Proofs.Ytajabfegeeepeaa
