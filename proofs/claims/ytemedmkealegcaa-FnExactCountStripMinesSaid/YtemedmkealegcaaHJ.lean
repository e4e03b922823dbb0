/- Strips: counts by mines. -/
import Derived.Test.YtemedmkealegcaaHI
namespace Go.Proofs.Ytemedmkealegcaa
open Go.RowKit

/-- Whether there is a strip, and a number of mines that a list may have. -/
def csmB (l : List UInt8) (c : Int) : Bool := stM l && inB c 0 40
def csmV (l : List UInt8) (c : Int) : Nat := if csmB l c = true then cwT l c.toNat else 0
theorem csm_yes {l : List UInt8} {k : Nat} (h : stM l = true) (hk : k < 41) : csmB l (k : Int) = true ∧ csmV l (k : Int) = cwT l k := by
  have e : csmB l (k : Int) = true := by
    rw [csmB, h]
    simp [inB]
    omega
  exact ⟨e, by rw [csmV, if_pos e]; rfl⟩
theorem csm_no {l : List UInt8} {c : Int} (h : csmB l c = false) : csmV l c = 0 := by rw [csmV, h]; rfl

set_option maxRecDepth 100000 in
set_option maxHeartbeats 1600000 in
theorem sCountStripMines_any (l : List UInt8) (c : Int) (w : World) (hl : l.length ≤ 1048576) :
    Calls Try.prog 26 #[.string ⟨l.toArray⟩, .int .i64 c] w fun e w' => e = .returned (.tuple #[.int .i64 (csmV l c : Nat), .bool (csmB l c)]) ∧ Below w.heap.size w w' := by
  have hgd := fun w => stGood_any l w hl
  cases hg : stM l with
  | false =>
    rw [hg] at hgd
    have HG := Lib.hid hgd
    have e : csmB l c = false := by rw [csmB, hg]; rfl
    rw [csm_no e, e]
    clear hgd hg e
    go_enter Try.func26, Try.ntmps26
    go_wp2_with fail
    refine (HG.out _).mono ?_
    rintro e w1 ⟨rfl, hb1⟩
    go_wp2_with fail
    go_ret2
    exact ⟨rfl, hb1⟩
  | true =>
    rw [hg] at hgd
    have HG := Lib.hid hgd
    by_cases hc : 0 ≤ c ∧ c ≤ 40
    · obtain ⟨k, rfl⟩ : ∃ k : Nat, c = (k : Int) := ⟨c.toNat, by omega⟩
      have hk : k < 41 := by omega
      have HA := Lib.hid fun w => stFrom_any l hg [] (Nat.zero_le _) w
      obtain ⟨e1, e2⟩ := csm_yes hg hk
      rw [cwT_yes hg] at e2
      rw [e1, e2]
      have hin := fun w => l1In_yes (k : Int) 0 40 w hc
      have HIN := Lib.hid hin
      have hix := fun w => idx61 (wvA (fitW l [])) k _ hk (wvA_get _ hk) w
      clear hgd hg e1 e2 hc hin
      simp only [List.map_nil] at HA
      go_enter Try.func26, Try.ntmps26
      go_wp2_with fail
      refine (HG.out _).mono ?_
      rintro e w1 ⟨rfl, hb1⟩
      go_wp2_with fail
      refine (HIN.out _).mono ?_
      rintro e w2 ⟨rfl, rfl⟩
      go_wp2_with fail
      refine (HA.out _).mono ?_
      rintro e w2 ⟨rfl, hb2⟩
      go_wp2_with fail
      go_ret2
      exact ⟨rfl, hb1.trans (hb2.mono hb1.size)⟩
    · have e : csmB l c = false := by rw [csmB]; simp [inB]; intro _; omega
      rw [csm_no e, e]
      have HIN := Lib.hid fun w => l1In_no c 0 40 w hc
      clear hgd hg e hc
      go_enter Try.func26, Try.ntmps26
      go_wp2_with fail
      refine (HG.out _).mono ?_
      rintro e w1 ⟨rfl, hb1⟩
      go_wp2_with fail
      refine (HIN.out _).mono ?_
      rintro e w2 ⟨rfl, rfl⟩
      go_wp2_with fail
      go_ret2
      exact ⟨rfl, hb1⟩

set_option maxRecDepth 100000 in
set_option maxHeartbeats 1600000 in
theorem iCountStripMines_any (l : List UInt8) (c : Int) (w : World) (hl : l.length ≤ 1048576) :
    Calls Try.prog 27 #[.string ⟨l.toArray⟩, .int .i64 c] w fun e w' => e = .returned (.tuple #[.int .i64 (csmV l c : Nat), .bool (csmB l c)]) ∧ Below w.heap.size w w' := by
  have hrw := fun w => readWays_any l w hl
  have hz := fun w => wvZero w
  have hbt := wvBuilt
  have hA0 : (w.alloc (.cells (wvA fun _ => 0) 59)).heap[w.heap.size]? = some (.cells (wvA fun _ => 0) 59 (0, 0)) := heap_alloc_new w _
  have hb0 : Below w.heap.size w (w.alloc (.cells (wvA fun _ => 0) 59)) := (Below.refl _ _).alloc (Nat.le_refl _) _
  cases hg : stM l with
  | false =>
    rw [hg] at hrw
    have HRW := Lib.hid hrw
    have e : csmB l c = false := by rw [csmB, hg]; rfl
    rw [csm_no e, e]
    generalize cwT l = f at *
    clear hrw hg e
    go_enter Try.func27, Try.ntmps27
    go_wp2_with fail
    refine (HRW.out _).mono ?_
    rintro e w1 ⟨rfl, hb1⟩
    have hA := heap_alloc_new w1 (.cells (wvA fun _ => 0) 59)
    go_upto_region 2 with (first
      | (refine wpList_store_row rfl _ _ _ rfl (w1.heap.size) (wvA f) rfl rfl 59 _ hA (wvInfoA _) (by simp only [wvA_size]) (wvA_one _) ?_))
    have hb2 : Below w1.heap.size w1 ((w1.alloc (.cells (wvA fun _ => 0) 59)).setRow w1.heap.size (wvA f)) := below_setRow ((Below.refl _ _).alloc (Nat.le_refl _) _) (Nat.le_refl _) _
    clear hA
    generalize (w1.alloc (.cells (wvA fun _ => 0) 59)).setRow w1.heap.size (wvA f) = w2 at *
    go_wp2_with fail
    go_ret2
    exact ⟨rfl, hb1.trans (hb2.mono hb1.size)⟩
  | true =>
    rw [hg] at hrw
    have HRW := Lib.hid hrw
    by_cases hc : 0 ≤ c ∧ c ≤ 40
    · obtain ⟨k, rfl⟩ : ∃ k : Nat, c = (k : Int) := ⟨c.toNat, by omega⟩
      have hk : k < 41 := by omega
      obtain ⟨e1, e2⟩ := csm_yes hg hk
      rw [e1, e2]
      have hz1 : ¬ (k : Int) < 0 := by omega
      have hz2 : ¬ (k : Int) > 40 := by omega
      have hz3 : ¬ (40 : Int) < (k : Int) := by omega
      have hgk := wvA_get (cwT l) hk
      generalize cwT l = f at *
      clear hrw hg e1 e2 hc
      go_enter Try.func27, Try.ntmps27
      go_wp2_with fail
      refine (HRW.out _).mono ?_
      rintro e w1 ⟨rfl, hb1⟩
      have hA := heap_alloc_new w1 (.cells (wvA fun _ => 0) 59)
      go_upto_region 2 with (first
        | (refine wpList_store_row rfl _ _ _ rfl (w1.heap.size) (wvA f) rfl rfl 59 _ hA (wvInfoA _) (by simp only [wvA_size]) (wvA_one _) ?_))
      have hB := setRow_heap (w1.alloc (.cells (wvA fun _ => 0) 59)) w1.heap.size _ (wvA f) _ _ hA
      have hb2 : Below w1.heap.size w1 ((w1.alloc (.cells (wvA fun _ => 0) 59)).setRow w1.heap.size (wvA f)) := below_setRow ((Below.refl _ _).alloc (Nat.le_refl _) _) (Nat.le_refl _) _
      clear hA
      generalize (w1.alloc (.cells (wvA fun _ => 0) 59)).setRow w1.heap.size (wvA f) = w2 at *
      have hcl := cell_of_block hB k
      rw [hgk] at hcl
      have hia : ∀ w, (Instr.indexAt 59 (.pointer (some ⟨w1.heap.size, 0, none⟩)) (.int .i64 (k : Int))).run Try.prog w = .ok (.pointer (some ⟨w1.heap.size, k, none⟩)) w := fun w => by
        simp [Instr.indexAt, run_underlying Try.underlying59, Instr.sureAddr, asIntOf, Try.sizeOf3, Addr.add_lit]
        omega
      go_wp2_with fail
      go_ret2
      exact ⟨rfl, hb1.trans (hb2.mono hb1.size)⟩
    · have e : csmB l c = false := by rw [csmB]; simp [inB]; intro _; omega
      rw [csm_no e, e]
      have hc2 : c < 0 ∨ (¬ c < 0 ∧ (40 : Int) < c) := by omega
      generalize cwT l = f at *
      clear hrw hg e hc
      go_enter Try.func27, Try.ntmps27
      go_wp2_with fail
      refine (HRW.out _).mono ?_
      rintro e w1 ⟨rfl, hb1⟩
      have hA := heap_alloc_new w1 (.cells (wvA fun _ => 0) 59)
      go_upto_region 2 with (first
        | (refine wpList_store_row rfl _ _ _ rfl (w1.heap.size) (wvA f) rfl rfl 59 _ hA (wvInfoA _) (by simp only [wvA_size]) (wvA_one _) ?_))
      have hb2 : Below w1.heap.size w1 ((w1.alloc (.cells (wvA fun _ => 0) 59)).setRow w1.heap.size (wvA f)) := below_setRow ((Below.refl _ _).alloc (Nat.le_refl _) _) (Nat.le_refl _) _
      clear hA
      generalize (w1.alloc (.cells (wvA fun _ => 0) 59)).setRow w1.heap.size (wvA f) = w2 at *
      rcases hc2 with hc | ⟨hc, hc2⟩
      · go_wp2_with fail
        go_ret2
        exact ⟨rfl, hb1.trans (hb2.mono hb1.size)⟩
      · go_wp2_with fail
        go_ret2
        exact ⟨rfl, hb1.trans (hb2.mono hb1.size)⟩
end Go.Proofs.Ytemedmkealegcaa
