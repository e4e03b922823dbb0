/- Strips: the lists with a mine in a cell, counted, by the program. -/
import Derived.Test.YtajabfegeeepeaaM2
namespace Go.Proofs.Ytajabfegeeepeaa
open Go.RowKit

theorem repeat_one (c : UInt8) : ∀ n, Lib.repeatL [c] n = List.replicate n c
  | 0 => rfl
  | n + 1 => by rw [Lib.repeatL, repeat_one c n]; rfl
set_option maxRecDepth 100000 in
set_option maxHeartbeats 1600000 in
theorem waysWithMine_any (s : List UInt8) (cell : Nat) (w : World) (hs : s.length ≤ 40) (hc : cell ≤ 40) :
    Calls Try.prog 52 #[.string ⟨s.toArray⟩, .int .i64 (cell : Int)] w fun e w' => e = .returned (.agg (wvA (fitW s (atT cell)))) ∧ Below w.heap.size w w' := by
  have hz := fun w => wvZero w
  have hrep := fun w => Try.strings_Repeat ⟨#[63]⟩ cell w (by omega) (by show 1 * cell ≤ _; omega)
  rw [show (ByteArray.mk #[63]).data.toList = [63] from rfl, repeat_one] at hrep
  have HREP := Lib.hid hrep
  have hfw := fun w => fittingWays_any s (List.replicate cell 63 ++ [42]) w hs (by simp; omega)
  have HFW := Lib.hid hfw
  have hmx : ¬ (9223372036854775807 < (List.replicate cell (63 : UInt8)).length + 1) := by simp; omega
  rw [show atT cell = List.replicate cell 63 ++ [42] from rfl]
  clear hrep hfw
  generalize List.replicate cell (63 : UInt8) = R at *
  go_enter Try.func52, Try.ntmps52
  go_upto_region 1 with fail
  have hb0 : Below w.heap.size w (w.alloc (.cells (wvA fun _ => 0) 54)) := (Below.refl _ _).alloc (Nat.le_refl _) _
  have hB1 := heap_alloc_new w (.cells (wvA fun _ => 0) 54)
  have HB1 := Lib.hid hB1
  have hl1 := block_lt hB1
  clear hB1
  generalize w.alloc (.cells (wvA fun _ => 0) 54) = w1 at *
  go_wp2_with fail
  refine (HREP.out _).mono ?_
  rintro e w2 ⟨rfl, hb2⟩
  go_wp2_with fail
  refine (HFW.out _).mono ?_
  rintro e w3 ⟨rfl, hb3⟩
  have hb13 : Below w1.heap.size w1 w3 := hb2.trans (hb3.mono hb2.size)
  have HR3 := Lib.hid ((hb13.block _ hl1).trans HB1.out)
  go_wp2_with (first
    | (refine wpList_store_row rfl _ _ _ rfl w.heap.size (wvA (fitW s (R ++ [42]))) rfl rfl 54 _ HR3.out (wvInfoA _) (by rw [wvA_size, wvA_size]) (wvA_one _) ?_))
  have hlv := run_loadVar_row (P := Try.prog) (w3.setRow w.heap.size (wvA (fitW s (R ++ [42])))) w.heap.size 54 54 (wvA (fitW s (R ++ [42]))) (0, 0) _ (setRow_heap w3 _ _ _ _ _ HR3.out) Try.underlying54 rfl (wvInfoA _)
  refine bodyPost_ret (v := .agg (wvA (fitW s (R ++ [42])))) ?_ rfl ⟨rfl, below_setRow (hb0.trans (hb13.mono hb0.size)) (Nat.le_refl _) _⟩
  simp [results, Try.results52, asAddr, Act.put, hlv]

set_option maxRecDepth 100000 in
set_option maxHeartbeats 1600000 in
theorem iCountStripAt_any (l : List UInt8) (c : Int) (w : World) (hl : l.length ≤ 1048576) :
    Calls Try.prog 21 #[.string ⟨l.toArray⟩, .int .i64 c] w fun e w' => e = .returned (.tuple #[.int .i64 (catV l c : Nat), .bool (catB l c)]) ∧ Below w.heap.size w w' := by
  have hgd := fun w => iIsStrip_any l w hl
  cases hg : stM l with
  | false =>
    rw [hg] at hgd
    have HG := Lib.hid hgd
    have e := cat_bad (c := c) hg
    rw [cat_no e, e]
    clear hgd hg e
    go_enter Try.func21, Try.ntmps21
    go_wp2_with fail
    refine (HG.out _).mono ?_
    rintro e w1 ⟨rfl, hb1⟩
    go_wp2_with fail
    go_ret2
    exact ⟨rfl, hb1⟩
  | true =>
    rw [hg] at hgd
    have HG := Lib.hid hgd
    by_cases hc : 0 ≤ c ∧ c < (l.length : Int)
    · obtain ⟨k, rfl⟩ : ∃ k : Nat, c = (k : Int) := ⟨c.toNat, by omega⟩
      have hk : k < l.length := by omega
      obtain ⟨hn1, hn40, hst⟩ := stM_facts hg
      obtain ⟨e1, e2⟩ := cat_yes hg hk
      rw [e1, e2, ← cnt_at hst hk, ← fitW_all l (atT k) hn40]
      have HWW := Lib.hid fun w => waysWithMine_any l k w hn40 (by omega)
      have HT := Lib.hid fun w => total_any (fitW l (atT k)) w (fitW_tot40 l _ hn40)
      have hz1 : ¬ ((k : Int) < 0) := by omega
      have hz2 : ¬ ((k : Int) ≥ (l.length : Int)) := by omega
      have hz3 : ¬ ((l.length : Int) ≤ (k : Int)) := by omega
      clear hgd hg e1 e2 hc hst
      generalize fitW l (atT k) = f at *
      go_enter Try.func21, Try.ntmps21
      go_wp2_with fail
      refine (HG.out _).mono ?_
      rintro e w1 ⟨rfl, hb1⟩
      go_wp2_with fail
      refine (HWW.out _).mono ?_
      rintro e w2 ⟨rfl, hb2⟩
      go_wp2_with fail
      refine (HT.out _).mono ?_
      rintro e w3 ⟨rfl, hb3⟩
      go_wp2_with fail
      go_ret2
      exact ⟨rfl, (hb1.trans (hb2.mono hb1.size)).trans (hb3.mono (by have := hb1.size; have := hb2.size; omega))⟩
    · have e := cat_out hc
      rw [cat_no e, e]
      by_cases hneg : c < 0
      · clear hgd hg e hc
        go_enter Try.func21, Try.ntmps21
        go_wp2_with fail
        refine (HG.out _).mono ?_
        rintro e w1 ⟨rfl, hb1⟩
        go_wp2_with fail
        go_ret2
        exact ⟨rfl, hb1⟩
      · have hz2 : (c ≥ (l.length : Int)) := by omega
        have hz3 : ((l.length : Int) ≤ c) := by omega
        clear hgd hg e hc
        go_enter Try.func21, Try.ntmps21
        go_wp2_with fail
        refine (HG.out _).mono ?_
        rintro e w1 ⟨rfl, hb1⟩
        go_wp2_with fail
        go_ret2
        exact ⟨rfl, hb1⟩
end Go.Proofs.Ytajabfegeeepeaa
