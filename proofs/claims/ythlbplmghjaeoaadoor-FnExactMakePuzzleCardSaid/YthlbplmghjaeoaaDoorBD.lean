/- No puzzle is made, by the model. -/
import Derived.Test.YthlbplmghjaeoaaDoorBB
namespace Go.Proofs.YthlbplmghjaeoaaDoor
open Go.RowKit

theorem mpC_len (l : List UInt8) (n s : Int) : (mpC l n s).length ≤ 8 := by
  unfold mpC
  split
  · rename_i h
    unfold mpB at h
    simp only [Bool.and_eq_true, inB, decide_eq_true_eq] at h
    rw [mkL_len]
    omega
  · simp
set_option maxRecDepth 100000 in
set_option maxHeartbeats 3200000 in
theorem sMake_no (l : List UInt8) (n s : Int) (w : World) (hl : l.length ≤ 1048576) (h : mpB l n s = false) :
    Calls Tryd.prog 12 #[.string ⟨l.toArray⟩, .int .i64 n, .int .i64 s] w fun e w' => e = .returned (.tuple #[.agg #[.int .i64 0, .int .i64 0, .slice none 0 0], .bool false]) ∧ Below w.heap.size w w' := by
  have HH := Lib.hid (fun w => pzHidden_any l w hl)
  have HI1 := Lib.hid (fun w => l1In_any n 0 8 w)
  have HI2 := Lib.hid (fun w => l1In_any s 0 9999 w)
  have hb0 : Below w.heap.size w (w.alloc (.cells #[.int .i64 0, .int .i64 0, .slice none 0 0] 31)) := (Below.refl _ _).alloc (Nat.le_refl _) _
  have hE0 := heap_alloc_new w (.cells #[.int .i64 0, .int .i64 0, .slice none 0 0] 31)
  unfold mpB at h
  generalize (boGoodM l && hsB (gW l) (gH l)) = q at *
  generalize inB n 0 8 = q1 at *
  generalize inB s 0 9999 = q2 at *
  cases q with
  | false =>
    clear h
    go_enter Tryd.func12, Tryd.ntmps12
    go_wp2_with fail
    generalize w.alloc (.cells #[.int .i64 0, .int .i64 0, .slice none 0 0] 31) = w0 at *
    refine (HH.out _).mono ?_
    rintro e w1 ⟨rfl, hb1⟩
    have hE1 := (hb1.block _ (block_lt hE0)).trans hE0
    have hB1 := hb0.trans (hb1.mono hb0.size)
    have HE1 := Lib.hid hE1
    have z0 := cell_of_block hE1 0
    have z1 := cell_of_block hE1 1
    have z2 := cell_of_block hE1 2
    have zf := frozen_of_block hE1
    simp at z0 z1 z2
    clear hE0 hE1 hb0 hb1
    go_wp2_with fail
    obtain ⟨hE5, hb5⟩ := puzzle_stored (B := w.heap.size) HE1.out (Nat.le_refl _) (.int .i64 0) (.int .i64 0) (.slice none 0 0)
    exact bodyPost_ret (res_pair rfl _ _ _ _ _ _ _ _ rfl hE5 Tryd.underlying31 rfl infPuz rfl) rfl ⟨rfl, hB1.trans hb5⟩
  | true =>
    cases q1 with
    | false =>
      clear h
      go_enter Tryd.func12, Tryd.ntmps12
      go_wp2_with fail
      generalize w.alloc (.cells #[.int .i64 0, .int .i64 0, .slice none 0 0] 31) = w0 at *
      refine (HH.out _).mono ?_
      rintro e w1 ⟨rfl, hb1⟩
      go_wp2_with fail
      refine (HI1.out _).mono ?_
      rintro e w1' ⟨rfl, rfl⟩
      have hE1 := (hb1.block _ (block_lt hE0)).trans hE0
      have hB1 := hb0.trans (hb1.mono hb0.size)
      have HE1 := Lib.hid hE1
      have z0 := cell_of_block hE1 0
      have z1 := cell_of_block hE1 1
      have z2 := cell_of_block hE1 2
      have zf := frozen_of_block hE1
      simp at z0 z1 z2
      clear hE0 hE1 hb0 hb1
      go_wp2_with fail
      obtain ⟨hE5, hb5⟩ := puzzle_stored (B := w.heap.size) HE1.out (Nat.le_refl _) (.int .i64 0) (.int .i64 0) (.slice none 0 0)
      exact bodyPost_ret (res_pair rfl _ _ _ _ _ _ _ _ rfl hE5 Tryd.underlying31 rfl infPuz rfl) rfl ⟨rfl, hB1.trans hb5⟩
    | true =>
      obtain rfl : q2 = false := by simpa using h
      clear h
      go_enter Tryd.func12, Tryd.ntmps12
      go_wp2_with fail
      generalize w.alloc (.cells #[.int .i64 0, .int .i64 0, .slice none 0 0] 31) = w0 at *
      refine (HH.out _).mono ?_
      rintro e w1 ⟨rfl, hb1⟩
      go_wp2_with fail
      refine (HI1.out _).mono ?_
      rintro e w1' ⟨rfl, rfl⟩
      go_wp2_with fail
      refine (HI2.out _).mono ?_
      rintro e w1' ⟨rfl, rfl⟩
      have hE1 := (hb1.block _ (block_lt hE0)).trans hE0
      have hB1 := hb0.trans (hb1.mono hb0.size)
      have HE1 := Lib.hid hE1
      have z0 := cell_of_block hE1 0
      have z1 := cell_of_block hE1 1
      have z2 := cell_of_block hE1 2
      have zf := frozen_of_block hE1
      simp at z0 z1 z2
      clear hE0 hE1 hb0 hb1
      go_wp2_with fail
      obtain ⟨hE5, hb5⟩ := puzzle_stored (B := w.heap.size) HE1.out (Nat.le_refl _) (.int .i64 0) (.int .i64 0) (.slice none 0 0)
      exact bodyPost_ret (res_pair rfl _ _ _ _ _ _ _ _ rfl hE5 Tryd.underlying31 rfl infPuz rfl) rfl ⟨rfl, hB1.trans hb5⟩
theorem sMake_any (l : List UInt8) (n s : Int) (w : World) (hl : l.length ≤ 1048576) :
    Calls Tryd.prog 12 #[.string ⟨l.toArray⟩, .int .i64 n, .int .i64 s] w fun e w' => ∃ v, e = .returned (.tuple #[.agg #[.int .i64 (mpX l n s : Nat), .int .i64 (mpY l n s : Nat), v], .bool (mpB l n s)]) ∧ RowC w' w.heap.size v (mpC l n s) ∧ Below w.heap.size w w' := by
  cases h : mpB l n s with
  | false =>
    obtain ⟨e1, e2, e3⟩ := mp_no h
    refine (sMake_no l n s w hl h).mono fun e w' ⟨he, hb⟩ => ⟨.slice none 0 0, ?_, ?_, hb⟩
    · rw [he, e2, e3]; rfl
    · rw [e1]; exact RowC.nil w' _
  | true =>
    have h' := h
    unfold mpB at h'
    simp only [Bool.and_eq_true] at h'
    obtain ⟨⟨hg, hs⟩, hn, hs9⟩ := h'
    have hBr : Brd l (gW l) (gH l) (gCells l) := by
      have h0 := Brd.of hg
      obtain ⟨g1, g2, g3⟩ := h0.grid
      rwa [← g1, ← g2, ← g3] at h0
    obtain ⟨N, rfl⟩ : ∃ N : Nat, n = N := ⟨n.toNat, by simp [inB] at hn; omega⟩
    obtain ⟨S, rfl⟩ : ∃ S : Nat, s = S := ⟨s.toNat, by simp [inB] at hs9; omega⟩
    have h9 : gW l * gH l ≤ 9 := by
      have := hs
      unfold hsB szB at this
      simp only [Bool.and_eq_true, inB, decide_eq_true_eq] at this
      have h2 := this.2
      exact_mod_cast h2
    have e1 : mpC l N S = mkL (gW l) (gH l) (gCells l) N S := by rw [mpC, if_pos h]; rfl
    have e2 : mpX l N S = gW l := by rw [mpX, if_pos h]
    have e3 : mpY l N S = gH l := by rw [mpY, if_pos h]
    rw [e1, e2, e3]
    exact sMake_yes l (gW l) (gH l) N S (gCells l) w hl hBr hs h9 (by simp [inB] at hn; omega) (by simp [inB] at hs9; omega)
end Go.Proofs.YthlbplmghjaeoaaDoor
