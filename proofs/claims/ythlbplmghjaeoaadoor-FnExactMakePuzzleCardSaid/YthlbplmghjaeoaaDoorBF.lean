/- No puzzle is made, by the program; a puzzle or none. -/
import Derived.Test.YthlbplmghjaeoaaDoorBE
namespace Go.Proofs.YthlbplmghjaeoaaDoor
open Go.RowKit

set_option maxRecDepth 100000 in
set_option maxHeartbeats 3200000 in
theorem iMake_no (l : List UInt8) (n s : Int) (w : World) (hM : HasMax w) (hl : l.length ≤ 1048576) (h : mpB l n s = false) :
    Calls Tryd.prog 13 #[.string ⟨l.toArray⟩, .int .i64 n, .int .i64 s] w fun e w' => e = .returned (.tuple #[.agg #[.int .i64 0, .int .i64 0, .slice none 0 0], .bool false]) ∧ Below w.heap.size w w' := by
  have HB := Lib.hid (fun w hM => readBoard_any l w hM hl)
  have HI := Lib.hid (fun w => isHidden_any ((gW l : Nat) : Int) ((gH l : Nat) : Int) w)
  have hb0 : Below w.heap.size w (w.alloc (.cells #[.int .i64 0, .int .i64 0, .slice none 0 0] 31)) := (Below.refl _ _).alloc (Nat.le_refl _) _
  have hE0 := heap_alloc_new w (.cells #[.int .i64 0, .int .i64 0, .slice none 0 0] 31)
  have key : hsB (gW l) (gH l) = false ∨ hsB (gW l) (gH l) = true ∧ (n < 0 ∨ (¬ n < 0 ∧ 8 < n) ∨ (¬ n < 0 ∧ ¬ 8 < n ∧ s < 0) ∨ (¬ n < 0 ∧ ¬ 8 < n ∧ ¬ s < 0 ∧ 9999 < s)) := by
    cases hq : hsB (gW l) (gH l) with
    | false => exact .inl rfl
    | true =>
      right
      refine ⟨rfl, ?_⟩
      have hg : boGoodM l = true := by
        cases hg : boGoodM l with
        | true => rfl
        | false =>
          have h1 : gW l = 0 := by simp [gW, hg]
          have h2 : gH l = 0 := by simp [gH, hg]
          rw [h1, h2] at hq
          simp [hsB, szB, inB] at hq
      rw [mpB, hg, hq] at h
      simp only [Bool.true_and, Bool.and_eq_false_iff, inB, decide_eq_false_iff_not] at h
      omega
  generalize hsB (gW l) (gH l) = q at *
  generalize gW l = X at *
  generalize gH l = Y at *
  generalize gCells l = cells at *
  generalize boGoodM l = bg at *
  clear h
  rcases key with rfl | ⟨rfl, k1 | ⟨k1, k2⟩ | ⟨k1, k2, k3⟩ | ⟨k1, k2, k3, k4⟩⟩
  all_goals
    go_enter Tryd.func13, Tryd.ntmps13
    go_wp2_with fail
    generalize w.alloc (.cells #[.int .i64 0, .int .i64 0, .slice none 0 0] 31) = w0 at *
    refine (HB.out _ (hM.later hb0)).mono ?_
    rintro e w1 ⟨a1, c1, rfl, hO1, hb1⟩
    have hB1 := hb0.trans (hb1.mono hb0.size)
    have hE1 := (hb1.block _ (block_lt hE0)).trans hE0
    clear hb0 hb1 hE0 hO1
    go_wp2_with fail
    have hbx := (Below.refl w1.heap.size w1).alloc (Nat.le_refl _) (.cells #[.int .i64 X, .int .i64 Y, .slice a1 cells.length c1, .bool false] 58)
    have hE2 := (hbx.block _ (block_lt hE1)).trans hE1
    have hB2 := hB1.trans (hbx.mono hB1.size)
    clear hbx hE1 hB1
    generalize w1.alloc (.cells #[.int .i64 X, .int .i64 Y, .slice a1 cells.length c1, .bool false] 58) = w2 at *
    refine (HI.out _).mono ?_
    rintro e w2' ⟨rfl, rfl⟩
    have HE2 := Lib.hid hE2
    have z0 := cell_of_block hE2 0
    have z1 := cell_of_block hE2 1
    have z2 := cell_of_block hE2 2
    have zf := frozen_of_block hE2
    simp at z0 z1 z2
    clear hE2
    go_wp2_with fail
    obtain ⟨hE5, hb5⟩ := puzzle_stored (B := w.heap.size) HE2.out (Nat.le_refl _) (.int .i64 0) (.int .i64 0) (.slice none 0 0)
    exact bodyPost_ret (res_pair rfl _ _ _ _ _ _ _ _ rfl hE5 Tryd.underlying31 rfl infPuz rfl) rfl ⟨rfl, hB2.trans hb5⟩
theorem iMake_any (l : List UInt8) (n s : Int) (w : World) (hM : HasMax w) (hl : l.length ≤ 1048576) :
    Calls Tryd.prog 13 #[.string ⟨l.toArray⟩, .int .i64 n, .int .i64 s] w fun e w' => ∃ v, e = .returned (.tuple #[.agg #[.int .i64 (mpX l n s : Nat), .int .i64 (mpY l n s : Nat), v], .bool (mpB l n s)]) ∧ RowC w' w.heap.size v (mpC l n s) ∧ Below w.heap.size w w' := by
  cases h : mpB l n s with
  | false =>
    obtain ⟨e1, e2, e3⟩ := mp_no h
    refine (iMake_no l n s w hM hl h).mono fun e w' ⟨he, hb⟩ => ⟨.slice none 0 0, ?_, ?_, hb⟩
    · rw [he, e2, e3]; rfl
    · rw [e1]; exact RowC.nil w' _
  | true =>
    have h' := h
    unfold mpB at h'
    simp only [Bool.and_eq_true] at h'
    obtain ⟨⟨hg, hs⟩, hn, hs9⟩ := h'
    have hBr : Brd l (gW l) (gH l) (gCells l) := by
      have h0 := Brd.of hg
      obtain ⟨g1, g2, g3⟩ := h0.grid
      rwa [← g1, ← g2, ← g3] at h0
    obtain ⟨N, rfl⟩ : ∃ N : Nat, n = N := ⟨n.toNat, by simp [inB] at hn; omega⟩
    obtain ⟨S, rfl⟩ : ∃ S : Nat, s = S := ⟨s.toNat, by simp [inB] at hs9; omega⟩
    have h9 : gW l * gH l ≤ 9 := by
      have := hs
      unfold hsB szB at this
      simp only [Bool.and_eq_true, inB, decide_eq_true_eq] at this
      have h2 := this.2
      exact_mod_cast h2
    have e1 : mpC l N S = mkL (gW l) (gH l) (gCells l) N S := by rw [mpC, if_pos h]; rfl
    have e2 : mpX l N S = gW l := by rw [mpX, if_pos h]
    have e3 : mpY l N S = gH l := by rw [mpY, if_pos h]
    rw [e1, e2, e3]
    exact iMake_yes l (gW l) (gH l) N S w hM hl hBr hs h9 (by simp [inB] at hn; omega) (by simp [inB] at hs9; omega)
end Go.Proofs.YthlbplmghjaeoaaDoor
