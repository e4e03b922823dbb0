/- Strips: the signs of cells, by the program. -/
import Derived.Test.YthlbplmghjaeoafH4
import Derived.Test.YthlbplmghjaeoafH5
import Derived.Test.YthlbplmghjaeoafW1
namespace Go.Proofs.Ythlbplmghjaeoaf
open Go.RowKit

theorem u8_eq (a b : UInt8) : ((a.toNat : Int) == (b.toNat : Int)) = (a == b) := by
  by_cases h : a = b
  · subst h; simp
  · rw [beq_eq_false_iff_ne.2 h, beq_eq_false_iff_ne]
    intro e
    exact h (UInt8.toNat_inj.1 (by omega))
theorem u8_63 (a : UInt8) : ((a.toNat : Int) == 63) = (a == 63) := u8_eq a 63
theorem sgM_int (m : Bool) : ((sgM m).toNat : Int) = if m = true then 42 else 46 := by cases m <;> rfl

set_option maxRecDepth 100000 in
theorem minesIn_any (m : Bool) (w : World) :
    Calls Try.prog 22 #[.int .u8 ((sgM m).toNat : Int)] w fun e w' => e = .returned (.int .i64 (m.toNat : Int)) ∧ w = w' := by
  rw [sgM_int]
  cases m with
  | true =>
    simp only [if_true]
    go_enter Try.func22, Try.ntmps22
    go_wp2_with fail
    go_ret
    exact ⟨rfl, rfl⟩
  | false =>
    simp only [Bool.false_eq_true, if_false]
    go_enter Try.func22, Try.ntmps22
    go_wp2_with fail
    go_ret
    exact ⟨rfl, rfl⟩

set_option maxRecDepth 100000 in
theorem mayHaveSign_any (c : UInt8) (m : Bool) (w : World) :
    Calls Try.prog 24 #[.int .u8 (c.toNat : Int), .int .u8 ((sgM m).toNat : Int)] w fun e w' => e = .returned (.bool (msB c m)) ∧ w = w' := by
  have h63 := u8_63 c
  unfold msB
  cases hc : (c == 63) <;> rw [hc] at h63 <;> cases m <;> rw [sgM_int] <;> simp only [Bool.false_eq_true, if_false, if_true]
  all_goals
    clear hc
    go_enter Try.func24, Try.ntmps24
    go_wp2_with fail
    go_ret
    exact ⟨rfl, rfl⟩

set_option maxRecDepth 100000 in
theorem mayHaveNumber_any (c : UInt8) (n : Nat) (w : World) (hn : n ≤ 9) :
    Calls Try.prog 25 #[.int .u8 (c.toNat : Int), .int .i64 (n : Int)] w fun e w' => e = .returned (.bool (mnB c n)) ∧ w = w' := by
  have hio := fun w => isOpenSign_any c w
  have hdg := fun w => digit_any n w hn
  have he : ((c.toNat : Int) == ((digB n).toNat : Int)) = (c.toNat == 48 + n) := by
    rw [digB_nat n hn]
    by_cases h : c.toNat = 48 + n
    · rw [h]; simp
    · rw [beq_eq_false_iff_ne.2 h, beq_eq_false_iff_ne]; omega
  unfold mnB
  rw [show (decide (48 ≤ c.toNat) && decide (c.toNat ≤ 56)) = digSign c from rfl]
  cases hd : digSign c with
  | false =>
    rw [hd] at hio
    clear hd he
    go_enter Try.func25, Try.ntmps25
    go_wp2_with fail
    refine (hio _).mono ?_
    rintro e w1 ⟨rfl, rfl⟩
    go_wp2_with fail
    go_ret
    exact ⟨rfl, rfl⟩
  | true =>
    rw [hd] at hio
    clear hd
    cases hq : (c.toNat == 48 + n) <;> rw [hq] at he
    all_goals
      clear hq
      go_enter Try.func25, Try.ntmps25
      go_wp2_with fail
      refine (hio _).mono ?_
      rintro e w1 ⟨rfl, rfl⟩
      go_wp2_with fail
      refine (hdg _).mono ?_
      rintro e w1 ⟨rfl, rfl⟩
      go_wp2_with fail
      go_ret
      exact ⟨rfl, rfl⟩

set_option maxRecDepth 100000 in
set_option maxHeartbeats 1600000 in
theorem isToldSign_any (told : List UInt8) (i : Nat) (m : Bool) (w : World) (hl : told.length ≤ 1048576) (hi : i ≤ 1048576) :
    Calls Try.prog 23 #[.string ⟨told.toArray⟩, .int .i64 (i : Int), .int .u8 ((sgM m).toNat : Int)] w fun e w' => e = .returned (.bool (tdB told i m)) ∧ w = w' := by
  unfold tdB
  by_cases h : told.length ≤ i
  · rw [decide_eq_true h, Bool.true_or]
    go_enter Try.func23, Try.ntmps23
    go_wp2_with fail
    go_ret
    exact ⟨rfl, rfl⟩
  · have hlt : i < told.length := by omega
    have hg : told.getD i 0 = told[i] := by simp [List.getD, hlt]
    have hdf : decide (told.length ≤ i) = false := decide_eq_false h
    rw [hdf, Bool.false_or, hg]
    have e1 := u8_63 told[i]
    have e2 := u8_eq told[i] (sgM m)
    cases h1 : (told[i] == 63) <;> rw [h1] at e1 <;> cases h2 : (told[i] == sgM m) <;> rw [h2] at e2
    all_goals
      clear h1 h2 hg h
      generalize ((sgM m).toNat : Int) = sg at *
      go_enter Try.func23, Try.ntmps23
      go_wp2_with fail
      go_ret
      exact ⟨rfl, rfl⟩

theorem idxRow (arr : Array Value) (k : Nat) (v : Value) (hk : k < 41) (h : arr[k]? = some v) (w : World) : (Instr.index 29 (.agg arr) (.int .i64 k)).run Try.prog w = .ok v w := by
  have h1 : (0 : Int) ≤ (k : Int) ∧ (k : Int) < 41 := by omega
  simp [Instr.index, asIntOf, run_underlying Try.underlying29, Try.sizeOf3, part, Try.isAgg3, h, h1]
  intro h2; omega
set_option maxRecDepth 100000 in
set_option maxHeartbeats 1600000 in
theorem total_any (f : Nat → Nat) (w : World) (hf : sumN 41 f ≤ 4611686018427387904) :
    Calls Try.prog 11 #[.agg (wvA f)] w fun e w' => e = .returned (.int .i64 (sumN 41 f : Nat)) ∧ Below w.heap.size w w' := by
  have hsa := wvA_size f
  have hB : (w.alloc (.cells (wvA f) 29)).heap[w.heap.size]? = some (.cells (wvA f) 29 (0, 0)) := heap_alloc_new w _
  have hb0 : Below w.heap.size w (w.alloc (.cells (wvA f) 29)) := (Below.refl _ _).alloc (Nat.le_refl _) _
  go_enter Try.func11, Try.ntmps11
  go_upto_region 2 with fail
  generalize w.alloc (.cells (wvA f) 29) = w1 at *
  go_wp2_with (refine wpList_load_row rfl _ _ rfl w.heap.size rfl 29 (wvA f) (0, 0) _ hB Try.underlying29 rfl (wvInfoA _) ?_)
  go_loop [3, 7] (fun v i => ∃ k : Nat, k ≤ 41 ∧ i = .int .i64 k ∧ v = .int .i64 (sumN k f : Nat)) (fun _ i => 41 - (intOf i).toNat)
  case atStart => exact ⟨0, by omega, rfl, rfl⟩
  case round =>
    obtain ⟨k, hk, rfl, rfl⟩ := hrel
    by_cases hlt : k < 41
    · have hgk := wvA_get f hlt
      have hix : ∀ w, (Instr.index 29 (.agg (wvA f)) (.int .i64 (k : Int))).run Try.prog w = .ok (.int .i64 (f k : Nat)) w := fun w => idxRow (wvA f) k _ hlt hgk w
      have hs1 := sumN_le_len (show k + 1 ≤ 41 by omega) f
      rw [sumN] at hs1
      have hsn : Hid (sumN (k + 1) f = sumN k f + f k) := rfl
      generalize sumN k f = sk at *
      generalize f k = fk at *
      go_wp2_with fail
      go_round
      case rel => exact ⟨k + 1, by omega, by go_num, by rw [hsn.out]; go_num⟩
      case measure => simp [intOf]; omega
    · obtain rfl : k = 41 := by omega
      go_wp2_with fail
      go_ret
      exact ⟨rfl, hb0⟩
end Go.Proofs.Ythlbplmghjaeoaf
