/- Puzzles by the program: parts of the clues, more clues. -/
import Derived.Test.YthlbplmghjaeoaaDoorA2
import Derived.Outline
namespace Go.Proofs.YthlbplmghjaeoaaDoor
open Go.RowKit

set_option maxRecDepth 100000 in
set_option maxHeartbeats 1600000 in
theorem part_none (W H : Int) (w : World) :
    Calls Tryd.prog 74 #[.agg #[.int .i64 W, .int .i64 H, .slice none 0 0], .int .i64 0, .int .i64 0] w fun e w' => e = .returned (.agg #[.int .i64 W, .int .i64 H, .slice none 0 0]) ∧ Below w.heap.size w w' := by
  have hb : Below w.heap.size w ((w.alloc (.cells #[.int .i64 W, .int .i64 H, .slice none 0 0] 31)).alloc (.cells #[.int .i64 0, .int .i64 0, .slice none 0 0] 31)) := ((Below.refl _ _).alloc (Nat.le_refl _) _).alloc (by simp) _
  go_enter Tryd.func74, Tryd.ntmps74
  go_wp2_with fail
  have hB := (blk1 w (.cells #[.int .i64 W, .int .i64 H, .slice none 0 0] 31) (.cells #[.int .i64 W, .int .i64 H, .slice none 0 0] 31))
  exact bodyPost_ret (results_cell_row rfl _ _ _ _ _ _ _ rfl hB Tryd.underlying31 rfl infPuz) rfl ⟨rfl, ((Below.refl _ _).alloc (Nat.le_refl _) _).alloc (by simp) _⟩
set_option maxRecDepth 100000 in
set_option maxHeartbeats 1600000 in
theorem part_some (W H : Int) (g o n cap k m : Nat) (w : World) (hkm : k ≤ m) (hmn : m ≤ n) (hnc : n ≤ cap) (hcap : cap ≤ 9223372036854775807) :
    Calls Tryd.prog 74 #[.agg #[.int .i64 W, .int .i64 H, .slice (some ⟨g, o, none⟩) n cap], .int .i64 k, .int .i64 m] w fun e w' => ∃ o', e = .returned (.agg #[.int .i64 W, .int .i64 H, .slice (some ⟨g, o', none⟩) (m - k) (m - k)]) ∧ o' = (if m = k then o else o + k * 3) ∧ Below w.heap.size w w' := by
  have hb : Below w.heap.size w ((w.alloc (.cells #[.int .i64 W, .int .i64 H, .slice (some ⟨g, o, none⟩) n cap] 31)).alloc (.cells #[.int .i64 0, .int .i64 0, .slice none 0 0] 31)) := ((Below.refl _ _).alloc (Nat.le_refl _) _).alloc (by simp) _
  go_enter Tryd.func74, Tryd.ntmps74
  go_wp2_with fail
  case inl =>
    have hB := (blk1 w (.cells #[.int .i64 W, .int .i64 H, .slice (some ⟨g, o, none⟩) 0 0] 31) (.cells #[.int .i64 W, .int .i64 H, .slice (some ⟨g, o, none⟩) 0 0] 31))
    exact bodyPost_ret (results_cell_row rfl _ _ _ _ _ _ _ rfl hB Tryd.underlying31 rfl infPuz) rfl ⟨o, rfl, rfl, ((Below.refl _ _).alloc (Nat.le_refl _) _).alloc (by simp) _⟩
  case inr =>
    have hB := (blk1 w (.cells #[.int .i64 W, .int .i64 H, .slice (some ⟨g, o + k * 3, none⟩) (m - k) (m - k)] 31) (.cells #[.int .i64 W, .int .i64 H, .slice (some ⟨g, o + k * 3, none⟩) (m - k) (m - k)] 31))
    exact bodyPost_ret (results_cell_row rfl _ _ _ _ _ _ _ rfl hB Tryd.underlying31 rfl infPuz) rfl ⟨_, rfl, rfl, ((Below.refl _ _).alloc (Nat.le_refl _) _).alloc (by simp) _⟩
/-- A part of the clues. -/
theorem part_any (W H : Int) (B n cap k m : Nat) (a : Option Addr) (cs : List Clu) (w : World) (hR : RowC w B (.slice a n cap) cs) (hkm : k ≤ m) (hmn : m ≤ cs.length) :
    Calls Tryd.prog 74 #[.agg #[.int .i64 W, .int .i64 H, .slice a n cap], .int .i64 k, .int .i64 m] w fun e w' => ∃ a', e = .returned (.agg #[.int .i64 W, .int .i64 H, .slice a' (m - k) (m - k)]) ∧ Below w.heap.size w w' ∧ At w' a' (flatC ((cs.drop k).take (m - k))) ∧ (k = 0 → RowC w' B (.slice a' (m - k) (m - k)) (cs.take m)) := by
  have hat := hR.at
  obtain ⟨a1, cap1, hv, h1, h2, h3, h4⟩ := hR
  obtain ⟨rfl, rfl, rfl⟩ : a = a1 ∧ n = cs.length ∧ cap = cap1 := by simpa using hv
  cases a with
  | none =>
    obtain rfl := h3 rfl
    obtain rfl : cs = [] := List.eq_nil_of_length_eq_zero (by omega)
    obtain rfl : m = 0 := by simpa using hmn
    obtain rfl : k = 0 := by omega
    refine (part_none W H w).mono ?_
    rintro e w' ⟨rfl, hb⟩
    exact ⟨none, rfl, hb, fun k hk => by simp [flatC] at hk, fun _ => RowC.nil w' B⟩
  | some ad =>
    obtain ⟨g, rfl, hg, cur, hh, hs, ht⟩ := h4 ad rfl
    refine (part_some W H g 0 cs.length cap k m w hkm hmn h1 h2).mono ?_
    rintro e w' ⟨o', rfl, ho, hb⟩
    refine ⟨_, rfl, hb, ?_, ?_⟩
    · by_cases h0 : m = k
      · subst h0
        rw [Nat.sub_self]
        exact fun k hk => by simp [flatC] at hk
      · rw [if_neg h0] at ho
        subst ho
        have e1 : cs = cs.take k ++ (cs.drop k).take (m - k) ++ (cs.drop k).drop (m - k) := by
          rw [List.append_assoc, List.take_append_drop, List.take_append_drop]
        rw [e1, flatC_append, flatC_append] at hat
        have := at_sub hat
        rw [flatC_length, List.length_take, Nat.min_eq_left (by omega)] at this
        exact this.later rfl hb
    · rintro rfl
      obtain rfl : o' = 0 := by rw [ho]; split <;> omega
      have hl : (cs.take m).length = m := by rw [List.length_take, Nat.min_eq_left hmn]
      refine ⟨_, _, by rw [hl, Nat.sub_zero], by rw [hl]; omega, by omega, (fun h => by cases h), fun ad had => ?_⟩
      obtain rfl : (⟨g, 0, none⟩ : Addr) = ad := by simpa using had
      refine ⟨g, rfl, hg, cur, (hb.block g (block_lt hh)).trans hh, by rw [hl]; omega, ?_⟩
      have e2 : flatC cs = flatC (cs.take m) ++ flatC (cs.drop m) := by rw [← flatC_append, List.take_append_drop]
      rw [hl]
      have e3 : (cur.toList.take (cs.length * 3)).take (m * 3) = (flatC (cs.take m) ++ flatC (cs.drop m)).take (m * 3) := by rw [ht, e2]
      rw [List.take_take, Nat.min_eq_left (by omega)] at e3
      rw [e3]
      exact List.take_left' (by rw [flatC_length, hl])
end Go.Proofs.YthlbplmghjaeoaaDoor
