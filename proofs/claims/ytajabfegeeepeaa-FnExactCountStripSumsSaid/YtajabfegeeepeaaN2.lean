/- Walks: the program's neighbours of a cell. -/
import Derived.Test.YtajabfegeeepeaaI5
import Derived.Test.YtajabfegeeepeaaN1
import Derived.RegionTactic
import Derived.ChangeAlike
import Derived.Deep.RegionHeld3
import Derived.Outline
namespace Go.Proofs.Ytajabfegeeepeaa
open Go.RowKit

def dist (a b : Nat) : Nat := max (a - b) (b - a)

set_option maxRecDepth 100000 in
theorem distance_any (a b : Nat) (w : World) (ha : a ≤ 64) (hb : b ≤ 64) :
    Calls Try.prog 58 #[.int .i64 a, .int .i64 b] w fun e w' => e = .returned (.int .i64 (dist a b)) ∧ w = w' := by
  go_enter Try.func58, Try.ntmps58
  go_wp2_with fail
  go_ret
  exact ⟨by simp [dist]; omega, rfl⟩

set_option maxRecDepth 100000 in
set_option maxHeartbeats 800000 in
theorem spotOf_any (W H : Nat) (a : Option Addr) (n cap : Nat) (k : Nat) (w : World) (hW : 1 ≤ W) (hk : k ≤ 64) :
    Calls Try.prog 112 #[.agg #[.int .i64 W, .int .i64 H, .slice a n cap], .int .i64 k] w fun e w' => e = .returned (.agg #[.int .i64 (k / W : Nat), .int .i64 (k % W : Nat)]) ∧ Below w.heap.size w w' := by
  go_enter Try.func112, Try.ntmps112
  go_wp2_with fail
  go_region
  go_wp2_with fail
  have e1 : ((k : Int) / (W : Int)) = ((k / W : Nat) : Int) := by simp
  have e2 : ((k : Int) % (W : Int)) = ((k % W : Nat) : Int) := by simp
  have hle : k / W ≤ k := Nat.div_le_self _ _
  have e3 : wrap64 ((k : Int) / (W : Int)) = ((k / W : Nat) : Int) := by
    rw [e1]
    clear e1 e2
    generalize k / W = q at *
    exact IntWalk.wrap64_in _ ⟨by omega, by omega⟩
  have b0 := (((Below.refl w.heap.size w).alloc (Nat.le_refl _) (.cells #[.int .i64 W, .int .i64 H, .slice a n cap] 44)).alloc (by simp) (.cells #[.int .i64 (wrap64 ((k : Int) / (W : Int))), .int .i64 ((k : Int) % (W : Int))] 133)).drew
  refine bodyPost_ret (v := .agg #[.int .i64 (k / W : Nat), .int .i64 (k % W : Nat)]) ?_ rfl ⟨rfl, b0⟩
  rw [← e3, ← e2]
  simp [results, Try.results112, go_sem]

/-- Whether two places are different and touch. -/
def areNb (r1 c1 r2 c2 : Nat) : Bool := !(r1 == r2 && c1 == c2) && decide (dist r1 r2 ≤ 1) && decide (dist c1 c2 ≤ 1)

set_option maxRecDepth 100000 in
set_option maxHeartbeats 800000 in
theorem areNeighbours_any (r1 c1 r2 c2 : Nat) (w : World) (h1 : r1 ≤ 64) (h2 : c1 ≤ 64) (h3 : r2 ≤ 64) (h4 : c2 ≤ 64) :
    Calls Try.prog 113 #[.agg #[.int .i64 r1, .int .i64 c1], .agg #[.int .i64 r2, .int .i64 c2]] w fun e w' => e = .returned (.bool (areNb r1 c1 r2 c2)) ∧ Below w.heap.size w w' := by
  have two : ∀ o p : Obj, Below w.heap.size w ((w.alloc o).alloc p) := fun o p => ((Below.refl _ w).alloc (Nat.le_refl _) o).alloc (by simp) p
  by_cases e : r1 = r2 ∧ c1 = c2
  · obtain ⟨rfl, rfl⟩ := e
    go_enter Try.func113, Try.ntmps113
    go_wp2_with fail
    go_ret
    exact ⟨by simp [areNb], two _ _⟩
  · have he : Hid (areNb r1 c1 r2 c2 = (decide (dist r1 r2 ≤ 1) && decide (dist c1 c2 ≤ 1))) := by
      have : (r1 == r2 && c1 == c2) = false := by
        by_cases h : r1 = r2 <;> simp_all
      rw [Hid, areNb, this]; simp
    by_cases e1 : r1 = r2
    · have e2 : ¬ c1 = c2 := fun h => e ⟨e1, h⟩
      have e3 : (c1 : Int) ≠ (c2 : Int) := by omega
      subst e1
      clear e
      have d1 : dist r1 r1 ≤ 1 := by simp [dist]
      have i1 : decide ((dist r1 r1 : Int) ≤ 1) = true := by simp; omega
      by_cases d2 : dist c1 c2 ≤ 1
      · have i2 : decide ((dist c1 c2 : Int) ≤ 1) = true := by simp; omega
        have He : areNb r1 c1 r1 c2 = true := by rw [he.out]; simp [d1, d2]
        have He' := Lib.hid He
        clear He he
        go_enter Try.func113, Try.ntmps113
        go_wp2_with (go_at_call 58; refine (distance_any _ _ _ (by omega) (by omega)).mono ?_; rintro e w' ⟨rfl, rfl⟩)
        go_ret
        exact ⟨by rw [He'.out]; rfl, two _ _⟩
      · have i2 : decide ((dist c1 c2 : Int) ≤ 1) = false := by simp; omega
        have He : areNb r1 c1 r1 c2 = false := by rw [he.out]; simp [d2]
        have He' := Lib.hid He
        clear He he d2
        go_enter Try.func113, Try.ntmps113
        go_wp2_with (go_at_call 58; refine (distance_any _ _ _ (by omega) (by omega)).mono ?_; rintro e w' ⟨rfl, rfl⟩)
        go_ret
        exact ⟨by rw [He'.out]; rfl, two _ _⟩
    · have e3 : (r1 : Int) ≠ (r2 : Int) := by omega
      clear e
      by_cases d1 : dist r1 r2 ≤ 1
      · have i1 : decide ((dist r1 r2 : Int) ≤ 1) = true := by simp; omega
        by_cases d2 : dist c1 c2 ≤ 1
        · have i2 : decide ((dist c1 c2 : Int) ≤ 1) = true := by simp; omega
          have He : areNb r1 c1 r2 c2 = true := by rw [he.out]; simp [d1, d2]
          have He' := Lib.hid He
          clear He he
          go_enter Try.func113, Try.ntmps113
          go_wp2_with (go_at_call 58; refine (distance_any _ _ _ (by omega) (by omega)).mono ?_; rintro e w' ⟨rfl, rfl⟩)
          go_ret
          exact ⟨by rw [He'.out]; rfl, two _ _⟩
        · have i2 : decide ((dist c1 c2 : Int) ≤ 1) = false := by simp; omega
          have He : areNb r1 c1 r2 c2 = false := by rw [he.out]; simp [d2]
          have He' := Lib.hid He
          clear He he d2
          go_enter Try.func113, Try.ntmps113
          go_wp2_with (go_at_call 58; refine (distance_any _ _ _ (by omega) (by omega)).mono ?_; rintro e w' ⟨rfl, rfl⟩)
          go_ret
          exact ⟨by rw [He'.out]; rfl, two _ _⟩
      · have i1 : decide ((dist r1 r2 : Int) ≤ 1) = false := by simp; omega
        have He : areNb r1 c1 r2 c2 = false := by rw [he.out]; simp [d1]
        have He' := Lib.hid He
        clear He he d1
        go_enter Try.func113, Try.ntmps113
        go_wp2_with (go_at_call 58; refine (distance_any _ _ _ (by omega) (by omega)).mono ?_; rintro e w' ⟨rfl, rfl⟩)
        go_ret
        exact ⟨by rw [He'.out]; rfl, two _ _⟩
end Go.Proofs.Ytajabfegeeepeaa
