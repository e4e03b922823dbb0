/- Walks: the program's neighbours of a cell. -/
import Derived.Test.YthlbplmghjaeoaeI5
import Derived.Test.YthlbplmghjaeoaeN1
import Derived.RegionTactic
import Derived.ChangeAlike
import Derived.Deep.RegionHeld3
import Derived.Outline
namespace Go.Proofs.Ythlbplmghjaeoae
open Go.RowKit

def dist (a b : Nat) : Nat := max (a - b) (b - a)

set_option maxRecDepth 100000 in
theorem distance_any (a b : Nat) (w : World) (ha : a ≤ 64) (hb : b ≤ 64) :
    Calls Try.prog 112 #[.int .i64 a, .int .i64 b] w fun e w' => e = .returned (.int .i64 (dist a b)) ∧ w = w' := by
  go_enter Try.func112, Try.ntmps112
  go_wp2_with fail
  go_ret
  exact ⟨by simp [dist]; omega, rfl⟩

set_option maxRecDepth 100000 in
set_option maxHeartbeats 800000 in
theorem spotOf_any {J : Bool} (W H : Nat) (a : Option Addr) (n cap : Nat) (k : Nat) (w : World) (hW : 1 ≤ W) (hk : k ≤ 64) :
    Calls Try.prog 96 #[.agg #[.int .i64 W, .int .i64 H, .slice a n cap, .bool J], .int .i64 k] w fun e w' => e = .returned (.agg #[.int .i64 (k / W : Nat), .int .i64 (k % W : Nat)]) ∧ Below w.heap.size w w' := by
  go_enter Try.func96, Try.ntmps96
  go_wp2_with fail
  go_region
  go_wp2_with fail
  have e1 : ((k : Int) / (W : Int)) = ((k / W : Nat) : Int) := by simp
  have e2 : ((k : Int) % (W : Int)) = ((k % W : Nat) : Int) := by simp
  have hle : k / W ≤ k := Nat.div_le_self _ _
  have e3 : wrap64 ((k : Int) / (W : Int)) = ((k / W : Nat) : Int) := by
    rw [e1]
    clear e1 e2
    generalize k / W = q at *
    exact IntWalk.wrap64_in _ ⟨by omega, by omega⟩
  have b0 := (((Below.refl w.heap.size w).alloc (Nat.le_refl _) (.cells #[.int .i64 W, .int .i64 H, .slice a n cap, .bool J] 66)).alloc (by simp) (.cells #[.int .i64 (wrap64 ((k : Int) / (W : Int))), .int .i64 ((k : Int) % (W : Int))] 110)).drew
  refine bodyPost_ret (v := .agg #[.int .i64 (k / W : Nat), .int .i64 (k % W : Nat)]) ?_ rfl ⟨rfl, b0⟩
  rw [← e3, ← e2]
  simp [results, Try.results96, go_sem]

/-- Whether two places are different and touch. -/
def areNb (r1 c1 r2 c2 : Nat) : Bool := !(r1 == r2 && c1 == c2) && decide (dist r1 r2 ≤ 1) && decide (dist c1 c2 ≤ 1)

/-- Whether two of so many rows touch, around or not. -/
def tchJ (J : Bool) (m a b : Nat) : Bool := decide (dist a b ≤ 1) || (J && decide (dist a b + 1 = m))
theorem tch_false (m a b : Nat) : tchJ false m a b = decide (dist a b ≤ 1) := by simp [tchJ]
/-- Whether two places are different and touch, around or not. -/
def areNbJ (J : Bool) (W H r1 c1 r2 c2 : Nat) : Bool := !(r1 == r2 && c1 == c2) && tchJ J H r1 r2 && tchJ J W c1 c2
theorem areNb_false (W H r1 c1 r2 c2 : Nat) : areNbJ false W H r1 c1 r2 c2 = areNb r1 c1 r2 c2 := by simp [areNbJ, areNb, tch_false]

/-- What is beside what: rows of a width, or rows around. -/
inductive Geo where
  | plain (W : Nat)
  | around (W H : Nat)
instance : Coe Nat Geo := ⟨Geo.plain⟩
/-- The form of a grid, around or not. -/
def geoOf (J : Bool) (W H : Nat) : Geo := match J with
  | false => .plain W
  | true => .around W H

set_option maxRecDepth 100000 in
set_option maxHeartbeats 800000 in
theorem doTouch_any {J : Bool} (W H : Nat) (s : Option Addr) (n cap : Nat) (a b m : Nat) (w : World) (ha : a ≤ 64) (hb : b ≤ 64) (hJ : J = true → 1 ≤ m ∧ m ≤ 1048576) :
    Calls Try.prog 104 #[.agg #[.int .i64 W, .int .i64 H, .slice s n cap, .bool J], .int .i64 a, .int .i64 b, .int .i64 m] w fun e w' => e = .returned (.bool (tchJ J m a b)) ∧ Below w.heap.size w w' := by
  have hb0 : Below w.heap.size w (w.alloc (.cells #[.int .i64 W, .int .i64 H, .slice s n cap, .bool J] 66)) := (Below.refl _ _).alloc (Nat.le_refl _) _
  by_cases h1 : dist a b ≤ 1
  · have i1 : decide ((dist a b : Int) ≤ 1) = true := by simp; omega
    have HT := Lib.hid (show tchJ J m a b = true by simp [tchJ, h1])
    clear h1 hJ
    go_enter Try.func104, Try.ntmps104
    go_wp2_with (go_at_call 112; refine (distance_any _ _ _ ha hb).mono ?_; rintro e w' ⟨rfl, rfl⟩)
    go_ret
    exact ⟨by rw [HT.out]; rfl, hb0⟩
  · have i1 : decide ((dist a b : Int) ≤ 1) = false := by simp; omega
    cases J with
    | false =>
      have HT := Lib.hid (show tchJ false m a b = false by simp [tchJ, h1])
      clear h1 hJ
      go_enter Try.func104, Try.ntmps104
      go_wp2_with (go_at_call 112; refine (distance_any _ _ _ ha hb).mono ?_; rintro e w' ⟨rfl, rfl⟩)
      go_ret
      exact ⟨by rw [HT.out]; rfl, hb0⟩
    | true =>
      obtain ⟨hm1, hm2⟩ := hJ rfl
      by_cases h2 : dist a b + 1 = m
      · have i2 : ((dist a b : Int) == (m : Int) - 1) = true := by simp; omega
        have HT := Lib.hid (show tchJ true m a b = true by simp [tchJ, h2])
        clear h1 hJ h2
        go_enter Try.func104, Try.ntmps104
        go_wp2_with (go_at_call 112; refine (distance_any _ _ _ ha hb).mono ?_; rintro e w' ⟨rfl, rfl⟩)
        go_ret
        exact ⟨by rw [HT.out]; rfl, hb0⟩
      · have i2 : ((dist a b : Int) == (m : Int) - 1) = false := by simp; omega
        have HT := Lib.hid (show tchJ true m a b = false by simp [tchJ, h1, h2])
        clear h1 hJ h2
        go_enter Try.func104, Try.ntmps104
        go_wp2_with (go_at_call 112; refine (distance_any _ _ _ ha hb).mono ?_; rintro e w' ⟨rfl, rfl⟩)
        go_ret
        exact ⟨by rw [HT.out]; rfl, hb0⟩

/-- What lies behind three boxes. -/
theorem boxed3 (w : World) (o1 o2 o3 : Obj) :
    Below w.heap.size w (((w.alloc o1).alloc o2).alloc o3) ∧ (((w.alloc o1).alloc o2).alloc o3).heap[w.heap.size]? = some o1 ∧ (((w.alloc o1).alloc o2).alloc o3).heap[w.heap.size + 1]? = some o2 ∧ (((w.alloc o1).alloc o2).alloc o3).heap[w.heap.size + 2]? = some o3 ∧ (((w.alloc o1).alloc o2).alloc o3).heap.size = w.heap.size + 3 := by
  refine ⟨(((Below.refl _ _).alloc (Nat.le_refl _) _).alloc (by simp) _).alloc (by simp; omega) _, ?_, ?_, ?_, ?_⟩
  · show (((w.heap.push o1).push o2).push o3)[w.heap.size]? = _
    simp only [Array.getElem?_push, Array.size_push]
    rw [if_neg (by omega), if_neg (by omega), if_pos trivial]
  · show (((w.heap.push o1).push o2).push o3)[w.heap.size + 1]? = _
    simp only [Array.getElem?_push, Array.size_push]
    rw [if_neg (by omega), if_pos trivial]
  · show (((w.heap.push o1).push o2).push o3)[w.heap.size + 2]? = _
    simp only [Array.getElem?_push, Array.size_push]
    rw [if_pos trivial]
  · show (((w.heap.push o1).push o2).push o3).size = _
    simp

set_option maxRecDepth 100000 in
set_option maxHeartbeats 1600000 in
theorem areNeighboursJ_any {J : Bool} (W H : Nat) (s : Option Addr) (n cap : Nat) (r1 c1 r2 c2 : Nat) (w : World) (h1 : r1 ≤ 64) (h2 : c1 ≤ 64) (h3 : r2 ≤ 64) (h4 : c2 ≤ 64) (hJ : J = true → (1 ≤ W ∧ W ≤ 1048576) ∧ (1 ≤ H ∧ H ≤ 1048576)) :
    Calls Try.prog 97 #[.agg #[.int .i64 W, .int .i64 H, .slice s n cap, .bool J], .agg #[.int .i64 r1, .int .i64 c1], .agg #[.int .i64 r2, .int .i64 c2]] w fun e w' => e = .returned (.bool (areNbJ J W H r1 c1 r2 c2)) ∧ Below w.heap.size w w' := by
  obtain ⟨hb, hG, hA, hB, hs⟩ := boxed3 w (.cells #[.int .i64 W, .int .i64 H, .slice s n cap, .bool J] 66) (.cells #[.int .i64 r1, .int .i64 c1] 110) (.cells #[.int .i64 r2, .int .i64 c2] 110)
  have hr := fun w => doTouch_any (J := J) W H s n cap r1 r2 H w h1 h3 (fun q => (hJ q).2)
  have hc := fun w => doTouch_any (J := J) W H s n cap c1 c2 W w h2 h4 (fun q => (hJ q).1)
  by_cases e : r1 = r2 ∧ c1 = c2
  · obtain ⟨rfl, rfl⟩ := e
    have HB := Lib.hid hb
    clear hr hc hb hG hA hB hs hJ
    go_enter Try.func97, Try.ntmps97
    go_wp2_with fail
    go_ret
    exact ⟨by simp [areNbJ], HB.out⟩
  · have he : Hid (areNbJ J W H r1 c1 r2 c2 = (tchJ J H r1 r2 && tchJ J W c1 c2)) := by
      have : (r1 == r2 && c1 == c2) = false := by
        by_cases h : r1 = r2 <;> simp_all
      rw [Hid, areNbJ, this]; simp
    have hne : ¬ (r1 : Int) = (r2 : Int) ∨ ((r1 : Int) = (r2 : Int) ∧ ¬ (c1 : Int) = (c2 : Int)) := by
      by_cases q : r1 = r2
      · exact .inr ⟨by simp [q], by omega⟩
      · exact .inl (by omega)
    clear e hJ
    cases t1 : tchJ J H r1 r2 with
    | false =>
      rw [t1] at hr he
      have HR := Lib.hid hr
      clear hr hc t1
      rcases hne with e1 | ⟨e1, e2⟩
      · clear hA hB
        go_enter Try.func97, Try.ntmps97
        go_wp2_with fail
        generalize ((w.alloc (.cells #[.int .i64 W, .int .i64 H, .slice s n cap, .bool J] 66)).alloc (.cells #[.int .i64 r1, .int .i64 c1] 110)).alloc (.cells #[.int .i64 r2, .int .i64 c2] 110) = w3 at *
        refine (HR.out _).mono ?_
        rintro e w4 ⟨rfl, hb4⟩
        go_wp2_with fail
        go_ret
        exact ⟨by rw [he.out]; rfl, hb.trans (hb4.mono (by omega))⟩
      · obtain rfl : r1 = r2 := by omega
        clear hA hB e1
        go_enter Try.func97, Try.ntmps97
        go_wp2_with fail
        generalize ((w.alloc (.cells #[.int .i64 W, .int .i64 H, .slice s n cap, .bool J] 66)).alloc (.cells #[.int .i64 r1, .int .i64 c1] 110)).alloc (.cells #[.int .i64 r1, .int .i64 c2] 110) = w3 at *
        refine (HR.out _).mono ?_
        rintro e w4 ⟨rfl, hb4⟩
        go_wp2_with fail
        go_ret
        exact ⟨by rw [he.out]; rfl, hb.trans (hb4.mono (by omega))⟩
    | true =>
      rw [t1] at hr he
      have HR := Lib.hid hr
      clear hr t1
      cases t2 : tchJ J W c1 c2 with
      | false =>
        rw [t2] at hc he
        have HC := Lib.hid hc
        clear hc t2
        rcases hne with e1 | ⟨e1, e2⟩
        · go_enter Try.func97, Try.ntmps97
          go_wp2_with fail
          generalize ((w.alloc (.cells #[.int .i64 W, .int .i64 H, .slice s n cap, .bool J] 66)).alloc (.cells #[.int .i64 r1, .int .i64 c1] 110)).alloc (.cells #[.int .i64 r2, .int .i64 c2] 110) = w3 at *
          refine (HR.out _).mono ?_
          rintro e w4 ⟨rfl, hb4⟩
          have hG4 := (hb4.block _ (by omega)).trans hG
          have hA4 := (hb4.block _ (by omega)).trans hA
          have hB4 := (hb4.block _ (by omega)).trans hB
          have hf0 := cell_of_block hG4 0
          have hf1 := cell_of_block hG4 1
          have hf2 := cell_of_block hG4 2
          have hf3 := cell_of_block hG4 3
          have ha0 := cell_of_block hA4 0
          have ha1 := cell_of_block hA4 1
          have hb0 := cell_of_block hB4 0
          have hb1 := cell_of_block hB4 1
          simp at hf0 hf1 hf2 hf3 ha0 ha1 hb0 hb1
          clear hG hA hB hG4 hA4 hB4
          go_wp2_with fail
          refine (HC.out _).mono ?_
          rintro e w5 ⟨rfl, hb5⟩
          go_wp2_with fail
          go_ret
          exact ⟨by rw [he.out]; rfl, (hb.trans (hb4.mono (by omega))).trans (hb5.mono (by have := hb4.size; omega))⟩
        · obtain rfl : r1 = r2 := by omega
          clear e1
          go_enter Try.func97, Try.ntmps97
          go_wp2_with fail
          generalize ((w.alloc (.cells #[.int .i64 W, .int .i64 H, .slice s n cap, .bool J] 66)).alloc (.cells #[.int .i64 r1, .int .i64 c1] 110)).alloc (.cells #[.int .i64 r1, .int .i64 c2] 110) = w3 at *
          refine (HR.out _).mono ?_
          rintro e w4 ⟨rfl, hb4⟩
          have hG4 := (hb4.block _ (by omega)).trans hG
          have hA4 := (hb4.block _ (by omega)).trans hA
          have hB4 := (hb4.block _ (by omega)).trans hB
          have hf0 := cell_of_block hG4 0
          have hf1 := cell_of_block hG4 1
          have hf2 := cell_of_block hG4 2
          have hf3 := cell_of_block hG4 3
          have ha0 := cell_of_block hA4 0
          have ha1 := cell_of_block hA4 1
          have hb0 := cell_of_block hB4 0
          have hb1 := cell_of_block hB4 1
          simp at hf0 hf1 hf2 hf3 ha0 ha1 hb0 hb1
          clear hG hA hB hG4 hA4 hB4
          go_wp2_with fail
          refine (HC.out _).mono ?_
          rintro e w5 ⟨rfl, hb5⟩
          go_wp2_with fail
          go_ret
          exact ⟨by rw [he.out]; rfl, (hb.trans (hb4.mono (by omega))).trans (hb5.mono (by have := hb4.size; omega))⟩
      | true =>
        rw [t2] at hc he
        have HC := Lib.hid hc
        clear hc t2
        rcases hne with e1 | ⟨e1, e2⟩
        · go_enter Try.func97, Try.ntmps97
          go_wp2_with fail
          generalize ((w.alloc (.cells #[.int .i64 W, .int .i64 H, .slice s n cap, .bool J] 66)).alloc (.cells #[.int .i64 r1, .int .i64 c1] 110)).alloc (.cells #[.int .i64 r2, .int .i64 c2] 110) = w3 at *
          refine (HR.out _).mono ?_
          rintro e w4 ⟨rfl, hb4⟩
          have hG4 := (hb4.block _ (by omega)).trans hG
          have hA4 := (hb4.block _ (by omega)).trans hA
          have hB4 := (hb4.block _ (by omega)).trans hB
          have hf0 := cell_of_block hG4 0
          have hf1 := cell_of_block hG4 1
          have hf2 := cell_of_block hG4 2
          have hf3 := cell_of_block hG4 3
          have ha0 := cell_of_block hA4 0
          have ha1 := cell_of_block hA4 1
          have hb0 := cell_of_block hB4 0
          have hb1 := cell_of_block hB4 1
          simp at hf0 hf1 hf2 hf3 ha0 ha1 hb0 hb1
          clear hG hA hB hG4 hA4 hB4
          go_wp2_with fail
          refine (HC.out _).mono ?_
          rintro e w5 ⟨rfl, hb5⟩
          go_wp2_with fail
          go_ret
          exact ⟨by rw [he.out]; rfl, (hb.trans (hb4.mono (by omega))).trans (hb5.mono (by have := hb4.size; omega))⟩
        · obtain rfl : r1 = r2 := by omega
          clear e1
          go_enter Try.func97, Try.ntmps97
          go_wp2_with fail
          generalize ((w.alloc (.cells #[.int .i64 W, .int .i64 H, .slice s n cap, .bool J] 66)).alloc (.cells #[.int .i64 r1, .int .i64 c1] 110)).alloc (.cells #[.int .i64 r1, .int .i64 c2] 110) = w3 at *
          refine (HR.out _).mono ?_
          rintro e w4 ⟨rfl, hb4⟩
          have hG4 := (hb4.block _ (by omega)).trans hG
          have hA4 := (hb4.block _ (by omega)).trans hA
          have hB4 := (hb4.block _ (by omega)).trans hB
          have hf0 := cell_of_block hG4 0
          have hf1 := cell_of_block hG4 1
          have hf2 := cell_of_block hG4 2
          have hf3 := cell_of_block hG4 3
          have ha0 := cell_of_block hA4 0
          have ha1 := cell_of_block hA4 1
          have hb0 := cell_of_block hB4 0
          have hb1 := cell_of_block hB4 1
          simp at hf0 hf1 hf2 hf3 ha0 ha1 hb0 hb1
          clear hG hA hB hG4 hA4 hB4
          go_wp2_with fail
          refine (HC.out _).mono ?_
          rintro e w5 ⟨rfl, hb5⟩
          go_wp2_with fail
          go_ret
          exact ⟨by rw [he.out]; rfl, (hb.trans (hb4.mono (by omega))).trans (hb5.mono (by have := hb4.size; omega))⟩
end Go.Proofs.Ythlbplmghjaeoae
