/- Puzzles by the program: which clues there are. -/
import Derived.Test.YthlbplmghjaeoaaDoorA1
import Derived.Outline
namespace Go.Proofs.YthlbplmghjaeoaaDoor
open Go.RowKit

/-- How many cells, rows or columns a clue of a kind may be about. -/
def plC (W H : Nat) (k : Int) : Nat := if k = 0 ∨ k = 2 then W * H else if k = 3 then H else if k = 4 then W else 0
/-- The greatest numbers that clues of a kind may have. -/
def limC (W H : Nat) (k : Int) : Option (Int × Int) :=
  if k = 0 then some ((W * H : Nat) - 1, 1) else if k = 1 then some ((W * H : Nat), 0) else if k = 2 then some ((W * H : Nat) - 1, 8) else
  if k = 3 then some ((H : Nat) - 1, 8) else if k = 4 then some ((W : Nat) - 1, 8) else if k = 5 then some (100, 0) else none
/-- Is there a clue? -/
def cluB (W H : Nat) (c : Clu) : Bool := match limC W H c.k with
  | none => false
  | some m => inB c.a 0 m.1 && inB c.b 0 m.2
theorem mulN {W H : Nat} (hW : 1 ≤ W ∧ W ≤ 8) (hH : 1 ≤ H ∧ H ≤ 8) : 1 ≤ W * H ∧ W * H ≤ 64 :=
  ⟨Nat.mul_pos hW.1 hH.1, Nat.le_trans (Nat.mul_le_mul hW.2 hH.2) (by decide)⟩

set_option maxRecDepth 100000 in
set_option maxHeartbeats 1600000 in
theorem places_any (W H n cap : Nat) (a : Option Addr) (k : Int) (w : World) (hW : 1 ≤ W ∧ W ≤ 8) (hH : 1 ≤ H ∧ H ≤ 8) :
    Calls Tryd.prog 76 #[.agg #[.int .i64 W, .int .i64 H, .slice a n cap], .int .i64 k] w fun e w' => e = .returned (.int .i64 (plC W H k : Nat)) ∧ Below w.heap.size w w' := by
  obtain ⟨p1, p2⟩ := mulN hW hH
  have wr1 : IntKind.i64.wrap ((W : Int) * (H : Int)) = ((W * H : Nat) : Int) := by rw [← Int.natCast_mul]; exact IntWalk.i64_in _ ⟨by omega, by omega⟩
  have wr2 : wrap64 ((W : Int) * (H : Int)) = ((W * H : Nat) : Int) := by rw [← Int.natCast_mul]; exact IntWalk.wrap64_in _ ⟨by omega, by omega⟩
  have hb : Below w.heap.size w (w.alloc (.cells #[.int .i64 W, .int .i64 H, .slice a n cap] 31)) := (Below.refl _ _).alloc (Nat.le_refl _) _
  by_cases k0 : k = 0
  · subst k0
    go_enter Tryd.func76, Tryd.ntmps76
    go_wp2
    go_ret
    exact ⟨rfl, hb⟩
  by_cases k2 : k = 2
  · subst k2
    go_enter Tryd.func76, Tryd.ntmps76
    go_wp2
    go_ret
    exact ⟨rfl, hb⟩
  by_cases k3 : k = 3
  · subst k3
    go_enter Tryd.func76, Tryd.ntmps76
    go_wp2
    go_ret
    exact ⟨rfl, hb⟩
  by_cases k4 : k = 4
  · subst k4
    go_enter Tryd.func76, Tryd.ntmps76
    go_wp2
    go_ret
    exact ⟨rfl, hb⟩
  have hp : plC W H k = 0 := by unfold plC; rw [if_neg (by omega), if_neg k3, if_neg k4]
  have d0 : (k == 0) = false := by simpa using k0
  have d2 : (k == 2) = false := by simpa using k2
  have d3 : (k == 3) = false := by simpa using k3
  have d4 : (k == 4) = false := by simpa using k4
  rw [hp]
  clear k0 k2 k3 k4 hp
  go_enter Tryd.func76, Tryd.ntmps76
  go_wp2
  go_ret
  exact ⟨rfl, hb⟩

set_option maxRecDepth 100000 in
set_option maxHeartbeats 1600000 in
theorem limits_yes (W H n cap : Nat) (a : Option Addr) (c : Clu) (m : Int × Int) (w : World) (hW : 1 ≤ W ∧ W ≤ 8) (hH : 1 ≤ H ∧ H ≤ 8) (hm : limC W H c.k = some m) :
    Calls Tryd.prog 96 #[.agg #[.int .i64 W, .int .i64 H, .slice a n cap], valC c] w fun e w' => e = .returned (.tuple #[.int .i64 m.1, .int .i64 m.2]) ∧ Below w.heap.size w w' := by
  obtain ⟨p1, p2⟩ := mulN hW hH
  have wr1 : IntKind.i64.wrap ((W : Int) * (H : Int)) = ((W * H : Nat) : Int) := by rw [← Int.natCast_mul]; exact IntWalk.i64_in _ ⟨by omega, by omega⟩
  have wr2 : wrap64 ((W : Int) * (H : Int)) = ((W * H : Nat) : Int) := by rw [← Int.natCast_mul]; exact IntWalk.wrap64_in _ ⟨by omega, by omega⟩
  have hpl := fun k w => places_any W H n cap a k w hW hH
  have HPL := Lib.hid hpl
  clear hpl
  obtain ⟨k, ca, cb⟩ := c
  unfold valC
  unfold limC at hm
  simp only at hm ⊢
  have hb : Below w.heap.size w ((w.alloc (.cells #[.int .i64 W, .int .i64 H, .slice a n cap] 31)).alloc (.cells #[.int .i64 k, .int .i64 ca, .int .i64 cb] 26)) := ((Below.refl _ _).alloc (Nat.le_refl _) _).alloc (by simp) _
  by_cases k0 : k = 0
  · subst k0
    obtain rfl := by simpa using hm
    have HP := HPL.out 0
    rw [show plC W H 0 = W * H from rfl] at HP
    go_enter Tryd.func96, Tryd.ntmps96
    go_wp2_with fail
    refine (HP _).mono ?_
    rintro e w1 ⟨rfl, hb1⟩
    have hb2 := hb.trans (hb1.mono hb.size)
    clear hb hb1
    go_wp2_with fail
    go_ret2
    exact ⟨rfl, hb2⟩
  by_cases k1 : k = 1
  · subst k1
    obtain rfl := by simpa using hm
    go_enter Tryd.func96, Tryd.ntmps96
    go_wp2_with fail
    go_ret2
    exact ⟨rfl, hb⟩
  by_cases k2 : k = 2
  · subst k2
    obtain rfl := by simpa using hm
    have HP := HPL.out 2
    rw [show plC W H 2 = W * H from rfl] at HP
    go_enter Tryd.func96, Tryd.ntmps96
    go_wp2_with fail
    refine (HP _).mono ?_
    rintro e w1 ⟨rfl, hb1⟩
    have hb2 := hb.trans (hb1.mono hb.size)
    clear hb hb1
    go_wp2_with fail
    go_ret2
    exact ⟨rfl, hb2⟩
  by_cases k3 : k = 3
  · subst k3
    obtain rfl := by simpa using hm
    have HP := HPL.out 3
    rw [show plC W H 3 = H from rfl] at HP
    go_enter Tryd.func96, Tryd.ntmps96
    go_wp2_with fail
    refine (HP _).mono ?_
    rintro e w1 ⟨rfl, hb1⟩
    have hb2 := hb.trans (hb1.mono hb.size)
    clear hb hb1
    go_wp2_with fail
    go_ret2
    exact ⟨rfl, hb2⟩
  by_cases k4 : k = 4
  · subst k4
    obtain rfl := by simpa using hm
    have HP := HPL.out 4
    rw [show plC W H 4 = W from rfl] at HP
    go_enter Tryd.func96, Tryd.ntmps96
    go_wp2_with fail
    refine (HP _).mono ?_
    rintro e w1 ⟨rfl, hb1⟩
    have hb2 := hb.trans (hb1.mono hb.size)
    clear hb hb1
    go_wp2_with fail
    go_ret2
    exact ⟨rfl, hb2⟩
  by_cases k5 : k = 5
  · subst k5
    obtain rfl := by simpa using hm
    go_enter Tryd.func96, Tryd.ntmps96
    go_wp2_with fail
    go_ret2
    exact ⟨rfl, hb⟩
  rw [if_neg k0, if_neg k1, if_neg k2, if_neg k3, if_neg k4, if_neg k5] at hm
  cases hm
set_option maxRecDepth 100000 in
set_option maxHeartbeats 1600000 in
theorem limits_no (W H n cap : Nat) (a : Option Addr) (c : Clu) (w : World) (hm : limC W H c.k = none) :
    Calls Tryd.prog 96 #[.agg #[.int .i64 W, .int .i64 H, .slice a n cap], valC c] w fun e w' => e = .panicked [{ v := .iface 98 (valC c), recovered := false }] ∧ Below w.heap.size w w' := by
  obtain ⟨k, ca, cb⟩ := c
  unfold valC
  unfold limC at hm
  simp only at hm ⊢
  have hb : Below w.heap.size w ((w.alloc (.cells #[.int .i64 W, .int .i64 H, .slice a n cap] 31)).alloc (.cells #[.int .i64 k, .int .i64 ca, .int .i64 cb] 26)) := ((Below.refl _ _).alloc (Nat.le_refl _) _).alloc (by simp) _
  have d0 : (k == 0) = false := by have : k ≠ 0 := by rintro rfl; simp at hm
                                   simpa using this
  have d1 : (k == 1) = false := by have : k ≠ 1 := by rintro rfl; simp at hm
                                   simpa using this
  have d2 : (k == 2) = false := by have : k ≠ 2 := by rintro rfl; simp at hm
                                   simpa using this
  have d3 : (k == 3) = false := by have : k ≠ 3 := by rintro rfl; simp at hm
                                   simpa using this
  have d4 : (k == 4) = false := by have : k ≠ 4 := by rintro rfl; simp at hm
                                   simpa using this
  have d5 : (k == 5) = false := by have : k ≠ 5 := by rintro rfl; simp at hm
                                   simpa using this
  clear hm
  go_enter Tryd.func96, Tryd.ntmps96
  go_wp2_with fail
  exact ⟨rfl, rfl, hb⟩

set_option maxRecDepth 100000 in
set_option maxHeartbeats 1600000 in
theorem checked_yes (W H n cap : Nat) (a : Option Addr) (c : Clu) (w : World) (hW : 1 ≤ W ∧ W ≤ 8) (hH : 1 ≤ H ∧ H ≤ 8) (hc : cluB W H c = true) :
    Calls Tryd.prog 67 #[.agg #[.int .i64 W, .int .i64 H, .slice a n cap], valC c] w fun e w' => e = .returned (valC c) ∧ Below w.heap.size w w' := by
  unfold cluB at hc
  cases hm : limC W H c.k with
  | none => rw [hm] at hc; cases hc
  | some m =>
    rw [hm] at hc
    have hl := fun w => limits_yes W H n cap a c m w hW hH hm
    have HL := Lib.hid hl
    obtain ⟨ma, mb⟩ := m
    obtain ⟨k, ca, cb⟩ := c
    unfold valC at *
    simp only [Bool.and_eq_true, inB_iff] at hc HL ⊢
    clear hl hm
    obtain ⟨⟨h1, h2⟩, h3, h4⟩ := hc
    have hb : Below w.heap.size w (((w.alloc (.cells #[.int .i64 W, .int .i64 H, .slice a n cap] 31)).alloc (.cells #[.int .i64 k, .int .i64 ca, .int .i64 cb] 26)).alloc (.cells #[.int .i64 0, .int .i64 0, .int .i64 0] 26)) := (((Below.refl _ _).alloc (Nat.le_refl _) _).alloc (by simp) _).alloc (by simp; omega) _
    obtain ⟨_, hB, hR⟩ := blk3 w (.cells #[.int .i64 W, .int .i64 H, .slice a n cap] 31) (.cells #[.int .i64 k, .int .i64 ca, .int .i64 cb] 26) (.cells #[.int .i64 0, .int .i64 0, .int .i64 0] 26)
    have HB := Lib.hid hB
    have HR := Lib.hid hR
    clear hB hR
    go_enter Tryd.func67, Tryd.ntmps67
    go_wp2_with fail
    refine (HL.out _).mono ?_
    rintro e w1 ⟨rfl, hb1⟩
    have hb2 := hb.trans (hb1.mono hb.size)
    have hB1 := (hb1.block _ (block_lt HB.out)).trans HB.out
    have hR1 := (hb1.block _ (block_lt HR.out)).trans HR.out
    have f0 := cell_of_block hB1 0
    have f1 := cell_of_block hB1 1
    have f2 := cell_of_block hB1 2
    have z0 := cell_of_block hR1 0
    have z1 := cell_of_block hR1 1
    have z2 := cell_of_block hR1 2
    have zf := frozen_of_block hR1
    simp at f0 f1 f2 z0 z1 z2
    have n1 : ¬ ca < 0 := by omega
    have n2 : ¬ ma < ca := by omega
    have n3 : ¬ cb < 0 := by omega
    have n4 : ¬ mb < cb := by omega
    have HQ := Lib.hid (clue_stored (B := w.heap.size) hR1 (by omega) ⟨k, ca, cb⟩)
    clear hb hb1 HB HR hB1 hR1 h1 h2 h3 h4
    go_wp2_with fail
    exact bodyPost_ret (v := valC ⟨k, ca, cb⟩) (results_cell_row rfl _ _ _ _ _ _ _ rfl HQ.out.1 Tryd.underlying26 rfl infClu) rfl ⟨rfl, hb2.trans HQ.out.2⟩
set_option maxRecDepth 100000 in
set_option maxHeartbeats 1600000 in
theorem checked_no (W H n cap : Nat) (a : Option Addr) (c : Clu) (w : World) (hW : 1 ≤ W ∧ W ≤ 8) (hH : 1 ≤ H ∧ H ≤ 8) (hc : cluB W H c = false) :
    Calls Tryd.prog 67 #[.agg #[.int .i64 W, .int .i64 H, .slice a n cap], valC c] w fun e w' => e = .panicked [{ v := .iface 98 (valC c), recovered := false }] ∧ Below w.heap.size w w' := by
  have hb : Below w.heap.size w (((w.alloc (.cells #[.int .i64 W, .int .i64 H, .slice a n cap] 31)).alloc (.cells #[.int .i64 c.k, .int .i64 c.a, .int .i64 c.b] 26)).alloc (.cells #[.int .i64 0, .int .i64 0, .int .i64 0] 26)) := (((Below.refl _ _).alloc (Nat.le_refl _) _).alloc (by simp) _).alloc (by simp; omega) _
  obtain ⟨_, hB, hR⟩ := blk3 w (.cells #[.int .i64 W, .int .i64 H, .slice a n cap] 31) (.cells #[.int .i64 c.k, .int .i64 c.a, .int .i64 c.b] 26) (.cells #[.int .i64 0, .int .i64 0, .int .i64 0] 26)
  have HB := Lib.hid hB
  clear hB hR
  unfold cluB at hc
  cases hm : limC W H c.k with
  | none =>
    have hl := fun w => limits_no W H n cap a c w hm
    have HL := Lib.hid hl
    obtain ⟨k, ca, cb⟩ := c
    unfold valC at *
    simp only at HL HB hb ⊢
    clear hl hm hc
    go_enter Tryd.func67, Tryd.ntmps67
    go_wp2_with fail
    refine (HL.out _).mono ?_
    rintro e w1 ⟨rfl, hb1⟩
    have hb2 := hb.trans (hb1.mono hb.size)
    clear hb hb1
    go_wp2_with fail
    exact ⟨rfl, rfl, hb2⟩
  | some m =>
    rw [hm] at hc
    have hl := fun w => limits_yes W H n cap a c m w hW hH hm
    have HL := Lib.hid hl
    obtain ⟨ma, mb⟩ := m
    obtain ⟨k, ca, cb⟩ := c
    unfold valC at *
    simp only at hc HL HB hb ⊢
    clear hl hm
    have key : (ca < 0) ∨ (0 ≤ ca ∧ ma < ca) ∨ (0 ≤ ca ∧ ca ≤ ma ∧ cb < 0) ∨ (0 ≤ ca ∧ ca ≤ ma ∧ 0 ≤ cb ∧ mb < cb) := by
      simp only [inB, Bool.and_eq_false_iff, decide_eq_false_iff_not] at hc
      omega
    clear hc
    rcases key with n1 | ⟨n1, n2⟩ | ⟨n1, n2, n3⟩ | ⟨n1, n2, n3, n4⟩
    all_goals
      go_enter Tryd.func67, Tryd.ntmps67
      go_wp2_with fail
      refine (HL.out _).mono ?_
      rintro e w1 ⟨rfl, hb1⟩
      have hb2 := hb.trans (hb1.mono hb.size)
      have hB1 := (hb1.block _ (block_lt HB.out)).trans HB.out
      have f0 := cell_of_block hB1 0
      have f1 := cell_of_block hB1 1
      have f2 := cell_of_block hB1 2
      simp at f0 f1 f2
      clear hb hb1 HB hB1
      go_wp2_with fail
      exact ⟨rfl, rfl, hb2⟩
end Go.Proofs.YthlbplmghjaeoaaDoor
