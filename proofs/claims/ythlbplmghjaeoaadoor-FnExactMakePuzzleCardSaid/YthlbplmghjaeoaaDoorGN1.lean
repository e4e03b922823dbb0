/- N1, N2, N3, N0, N4, N5, N6, laid as one text. -/
import Derived.Test.YthlbplmghjaeoaaDoorGS2
import Derived.Deep.QuietTactic
import Derived.BigQuiet
import Derived.WalkSmall
import Derived.Outline
import Derived.Test.YthlbplmghjaeoaaDoorI5
import Derived.RegionTactic
import Derived.ChangeAlike
import Derived.Deep.RegionHeld3
import Derived.Lib.OthersKept
import Derived.Test.YthlbplmghjaeoaaDoorE

/- Walks: the model's neighbours of a cell. -/
namespace Go.Proofs.YthlbplmghjaeoaaDoor
open Go.RowKit

/-- Whether the model takes the place (a, b) beside (x, y). -/
def takes (W H x y a b : Int) : Bool := inB a 0 (W - 1) && inB b 0 (H - 1) && (a != x || b != y)
def innerGo (W H x y b : Int) : Nat → Int → List Int
  | 0, _ => []
  | m + 1, a => if takes W H x y a b = true then (b * W + a) :: innerGo W H x y b m (a + 1) else innerGo W H x y b m (a + 1)
def outerGo (W H x y : Int) : Nat → Int → List Int
  | 0, _ => []
  | m + 1, b => innerGo W H x y b 3 (x - 1) ++ outerGo W H x y m (b + 1)
def boNearM (W H c : Nat) : List Int := outerGo W H (c % W : Nat) (c / W : Nat) 3 ((c / W : Nat) - 1)
theorem innerGo_le (W H x y b : Int) : ∀ (m : Nat) (a : Int), (innerGo W H x y b m a).length ≤ m
  | 0, _ => by simp [innerGo]
  | m + 1, a => by
    have := innerGo_le W H x y b m (a + 1)
    unfold innerGo; split <;> simp <;> omega
theorem outerGo_le (W H x y : Int) : ∀ (m : Nat) (b : Int), (outerGo W H x y m b).length ≤ 3 * m
  | 0, _ => by simp [outerGo]
  | m + 1, b => by
    have := outerGo_le W H x y m (b + 1)
    have := innerGo_le W H x y b 3 (x - 1)
    unfold outerGo; simp; omega
theorem boNearM_le (W H c : Nat) : (boNearM W H c).length ≤ 9 := outerGo_le _ _ _ _ 3 _

theorem wrapIdx (b W a : Int) (hb : -100 ≤ b ∧ b ≤ 100) (hW : 0 ≤ W ∧ W ≤ 8) (ha : -100 ≤ a ∧ a ≤ 100) : wrap64 (wrap64 (b * W) + a) = b * W + a := by
  have hw : W = 0 ∨ W = 1 ∨ W = 2 ∨ W = 3 ∨ W = 4 ∨ W = 5 ∨ W = 6 ∨ W = 7 ∨ W = 8 := by omega
  have h1 : -800 ≤ b * W ∧ b * W ≤ 800 := by
    rcases hw with rfl | rfl | rfl | rfl | rfl | rfl | rfl | rfl | rfl <;> omega
  rw [IntWalk.wrap64_in (b * W) ⟨by omega, by omega⟩, IntWalk.wrap64_in _ ⟨by omega, by omega⟩]

set_option maxRecDepth 100000 in
set_option maxHeartbeats 3200000 in
theorem boNear_any (W H c : Nat) (w : World) (hW : 1 ≤ W ∧ W ≤ 8) (hH : H ≤ 8) (hc : c < 64) :
    Calls Tryd.prog 111 #[.int .i64 W, .int .i64 H, .int .i64 c] w fun e w' => ∃ a cap, e = .returned (.slice a (boNearM W H c).length cap) ∧ Owns w' w.heap.size 3 (.slice a (boNearM W H c).length cap) (ints (boNearM W H c)) ∧ Below w.heap.size w w' := by
  obtain ⟨hW1, hW8⟩ := hW
  have hM : Hid (boNearM W H c = outerGo W H (c % W : Nat) (c / W : Nat) 3 ((c / W : Nat) - 1)) := rfl
  have hx : c % W < W := Nat.mod_lt _ (by omega)
  have hy : c / W ≤ c := Nat.div_le_self _ _
  obtain ⟨x, hxe⟩ : ∃ x, c % W = x := ⟨_, rfl⟩
  obtain ⟨y, hye⟩ : ∃ y, c / W = y := ⟨_, rfl⟩
  rw [hxe, hye] at hM
  rw [hxe] at hx
  rw [hye] at hy
  have ex : (c : Int) % (W : Int) = (x : Int) := by rw [← hxe]; simp
  have ey : wrap64 ((c : Int) / (W : Int)) = (y : Int) := by
    rw [IntWalk.wrap64_in _ ⟨by have : (0 : Int) ≤ (c : Int) / (W : Int) := Int.ediv_nonneg (by omega) (by omega); omega, by
      have : ((c : Int) / (W : Int)) = ((c / W : Nat) : Int) := by simp
      rw [this, hye]; omega⟩, ← hye]; simp
  clear hxe hye
  go_enter Tryd.func111, Tryd.ntmps111
  go_wp2_with fail
  go_quiet (fail)
  simp only [ex, ey]
  go_wp2_with fail
  clear ex ey
  have hnq : Below w.heap.size w (w.drewN nq) := below_drewN (Below.refl _ _) _
  generalize w.drewN nq = w0 at *
  go_loopw [9, 10] (fun v b wr => ∃ j : Nat, j ≤ 3 ∧ b = .int .i64 ((y : Int) - 1 + j) ∧ ∃ acc : List Int, acc.length ≤ 3 * j ∧ Owns wr w.heap.size 3 v (ints acc) ∧ Below w.heap.size w wr ∧ Hid (boNearM W H c = acc ++ outerGo W H x y (3 - j) ((y : Int) - 1 + j))) (fun _ b _ => ((y : Int) + 2 - intOf b).toNat)
  case atStart => exact ⟨0, by omega, by simp, [], by simp, Owns.nil _ _ _, hnq, by rw [Hid, hM.out]; simp⟩
  case round =>
    obtain ⟨j, hj, rfl, acc, hacc, hown, hb, hR⟩ := hrel
    by_cases hlt : j < 3
    · have ht : decide ((y : Int) - 1 + (j : Int) ≤ (y : Int) + 1) = true := by simp; omega
      go_wp2_with fail
      go_loopw [9, 11] (fun v a wr => ∃ i : Nat, i ≤ 3 ∧ a = .int .i64 ((x : Int) - 1 + i) ∧ ∃ acc : List Int, acc.length ≤ 3 * j + i ∧ Owns wr w.heap.size 3 v (ints acc) ∧ Below w.heap.size w wr ∧ Hid (boNearM W H c = acc ++ (innerGo W H x y ((y : Int) - 1 + j) (3 - i) ((x : Int) - 1 + i) ++ outerGo W H x y (3 - (j + 1)) ((y : Int) - 1 + j + 1)))) (fun _ a _ => ((x : Int) + 2 - intOf a).toNat)
      case atStart =>
        refine ⟨0, by omega, by simp, acc, by omega, hown, hb, ?_⟩
        rw [Hid, hR.out, show 3 - j = (3 - (j + 1)) + 1 by omega, outerGo]
        simp
      case round =>
        clear hown hb hR hacc acc
        obtain ⟨i, hi, rfl, acc, hacc, hown, hb, hR⟩ := hrel
        by_cases hlti : i < 3
        · by_cases h1 : 0 ≤ (x : Int) - 1 + i ∧ (x : Int) - 1 + i ≤ (W : Int) - 1
          · have d1 : inB ((x : Int) - 1 + i) 0 ((W : Int) - 1) = true := by simp [inB]; omega
            have D1 := Lib.hid d1
            clear h1
            by_cases h2 : 0 ≤ (y : Int) - 1 + j ∧ (y : Int) - 1 + j ≤ (H : Int) - 1
            · have d2 : inB ((y : Int) - 1 + j) 0 ((H : Int) - 1) = true := by simp [inB]; omega
              have D2 := Lib.hid d2
              clear h2
              by_cases h3 : i = 1
              · have e3 : ((x : Int) - 1 + (i : Int)) = (x : Int) := by omega
                by_cases h4 : j = 1
                · have e4 : ((y : Int) - 1 + (j : Int)) = (y : Int) := by omega
                  have E3 := Lib.hid e3
                  have E4 := Lib.hid e4
                  have H3 := Lib.hid h3
                  have H4 := Lib.hid h4
                  have d3 : ((x : Int) - 1 + (i : Int) != (x : Int)) = false := by simp; omega
                  have d4 : ((y : Int) - 1 + (j : Int) != (y : Int)) = false := by simp; omega
                  have D3 := Lib.hid d3
                  have D4 := Lib.hid d4
                  clear e3 e4 h3 h4
                  go_wp2_with (go_at_call 38; refine (l1In_any _ _ _ _).mono ?_; rintro e w' ⟨rfl, rfl⟩)
                  go_roundw
                  case rel =>
                    first
                      | exact ⟨i + 1, by omega, by go_num, acc, by omega, hown, hb, by rw [Hid, hR.out, show 3 - i = (3 - (i + 1)) + 1 by omega, innerGo, if_neg (by rw [takes, D1.out, D2.out, D3.out, D4.out]; simp), Int.natCast_add i, Int.natCast_one, Int.add_assoc]⟩
                      | ((repeat apply Exists.intro); exact ⟨⟨i + 1, by omega, by go_num, acc, by omega, hown, hb, by rw [Hid, hR.out, show 3 - i = (3 - (i + 1)) + 1 by omega, innerGo, if_neg (by rw [takes, D1.out, D2.out, D3.out, D4.out]; simp), Int.natCast_add i, Int.natCast_one, Int.add_assoc]⟩, rfl⟩)
                  case measure => simp [intOf]; omega
                · have H3 := Lib.hid h3
                  have d3 : ((x : Int) - 1 + (i : Int) != (x : Int)) = false := by simp; omega
                  have d4 : ((y : Int) - 1 + (j : Int) != (y : Int)) = true := by rw [bne_iff_ne]; omega
                  have D3 := Lib.hid d3
                  have D4 := Lib.hid d4
                  clear e3 h3
                  go_wp2_with (first | (go_at_call 38; refine (l1In_any _ _ _ _).mono ?_; rintro e w' ⟨rfl, rfl⟩) | (at_builtin; refine wpList_app1 rfl _ _ _ rfl _ _ _ _ elemInt _ _ _ _ rfl rfl rfl hown rfl (by simp; omega) hb.size (by simp; omega) ?_; intro v1 w1 hown1 hb1 hs1))
                  rw [ints_snoc, wrapIdx ((y : Int) - 1 + j) _ ((x : Int) - 1 + i) (by omega) (by omega) (by omega)] at hown1
                  go_roundw
                  case rel =>
                    first
                      | exact ⟨(i + 1), by omega, by first | go_num | (congr 1; omega), _, by simp; omega, hown1, hb.trans hb1, by rw [Hid, hR.out, show 3 - i = (3 - (i + 1)) + 1 by omega, innerGo, if_pos (by rw [takes, D1.out, D2.out, D3.out, D4.out]; simp), Int.natCast_add i, Int.natCast_one, Int.add_assoc]; simp⟩
                      | ((repeat apply Exists.intro); exact ⟨⟨(i + 1), by omega, by first | go_num | (congr 1; omega), _, by simp; omega, hown1, hb.trans hb1, by rw [Hid, hR.out, show 3 - i = (3 - (i + 1)) + 1 by omega, innerGo, if_pos (by rw [takes, D1.out, D2.out, D3.out, D4.out]; simp), Int.natCast_add i, Int.natCast_one, Int.add_assoc]; simp⟩, rfl⟩)
                  case measure => simp [intOf]; omega
              · have d3 : ((x : Int) - 1 + (i : Int) != (x : Int)) = true := by rw [bne_iff_ne]; omega
                have D3 := Lib.hid d3
                go_wp2_with (first | (go_at_call 38; refine (l1In_any _ _ _ _).mono ?_; rintro e w' ⟨rfl, rfl⟩) | (at_builtin; refine wpList_app1 rfl _ _ _ rfl _ _ _ _ elemInt _ _ _ _ rfl rfl rfl hown rfl (by simp; omega) hb.size (by simp; omega) ?_; intro v1 w1 hown1 hb1 hs1))
                rw [ints_snoc, wrapIdx ((y : Int) - 1 + j) _ ((x : Int) - 1 + i) (by omega) (by omega) (by omega)] at hown1
                go_roundw
                case rel =>
                  first
                    | exact ⟨(i + 1), by omega, by first | go_num | (congr 1; omega), _, by simp; omega, hown1, hb.trans hb1, by rw [Hid, hR.out, show 3 - i = (3 - (i + 1)) + 1 by omega, innerGo, if_pos (by rw [takes, D1.out, D2.out, D3.out]; simp), Int.natCast_add i, Int.natCast_one, Int.add_assoc]; simp⟩
                    | ((repeat apply Exists.intro); exact ⟨⟨(i + 1), by omega, by first | go_num | (congr 1; omega), _, by simp; omega, hown1, hb.trans hb1, by rw [Hid, hR.out, show 3 - i = (3 - (i + 1)) + 1 by omega, innerGo, if_pos (by rw [takes, D1.out, D2.out, D3.out]; simp), Int.natCast_add i, Int.natCast_one, Int.add_assoc]; simp⟩, rfl⟩)
                case measure => simp [intOf]; omega
            · have d2 : inB ((y : Int) - 1 + j) 0 ((H : Int) - 1) = false := by simp [inB]; omega
              have D2 := Lib.hid d2
              clear h2
              go_wp2_with (go_at_call 38; refine (l1In_any _ _ _ _).mono ?_; rintro e w' ⟨rfl, rfl⟩)
              go_roundw
              case rel =>
                first
                  | exact ⟨i + 1, by omega, by go_num, acc, by omega, hown, hb, by rw [Hid, hR.out, show 3 - i = (3 - (i + 1)) + 1 by omega, innerGo, if_neg (by rw [takes, D2.out]; simp), Int.natCast_add, Int.natCast_one, Int.add_assoc]⟩
                  | ((repeat apply Exists.intro); exact ⟨⟨i + 1, by omega, by go_num, acc, by omega, hown, hb, by rw [Hid, hR.out, show 3 - i = (3 - (i + 1)) + 1 by omega, innerGo, if_neg (by rw [takes, D2.out]; simp), Int.natCast_add, Int.natCast_one, Int.add_assoc]⟩, rfl⟩)
              case measure => simp [intOf]; omega
          · have d1 : inB ((x : Int) - 1 + i) 0 ((W : Int) - 1) = false := by simp [inB]; omega
            have D1 := Lib.hid d1
            clear h1
            go_wp2_with (go_at_call 38; refine (l1In_any _ _ _ _).mono ?_; rintro e w' ⟨rfl, rfl⟩)
            go_roundw
            case rel =>
              first
                | exact ⟨i + 1, by omega, by go_num, acc, by omega, hown, hb, by rw [Hid, hR.out, show 3 - i = (3 - (i + 1)) + 1 by omega, innerGo, if_neg (by rw [takes, D1.out]; simp), Int.natCast_add, Int.natCast_one, Int.add_assoc]⟩
                | ((repeat apply Exists.intro); exact ⟨⟨i + 1, by omega, by go_num, acc, by omega, hown, hb, by rw [Hid, hR.out, show 3 - i = (3 - (i + 1)) + 1 by omega, innerGo, if_neg (by rw [takes, D1.out]; simp), Int.natCast_add, Int.natCast_one, Int.add_assoc]⟩, rfl⟩)
            case measure => simp [intOf]; omega
        · obtain rfl : i = 3 := by omega
          go_wp2_with fail
          go_roundw
          case rel =>
            first
              | exact ⟨j + 1, by omega, by go_num, acc, by omega, hown, hb, by rw [Hid, hR.out]; simp [innerGo]; congr 1; omega⟩
              | ((repeat apply Exists.intro); exact ⟨⟨j + 1, by omega, by go_num, acc, by omega, hown, hb, by rw [Hid, hR.out]; simp [innerGo]; congr 1; omega⟩, rfl⟩)
          case measure => simp [intOf]; omega
    · obtain rfl : j = 3 := by omega
      go_wp2_with fail
      go_ret
      have hfin : acc = boNearM W H c := by rw [hR.out]; simp [outerGo]
      rw [hfin] at hown
      obtain ⟨a', cap', hv⟩ := hown.shape
      simp only [ints_length] at hv
      exact ⟨a', cap', by rw [← hv]; rfl, by rw [← hv]; exact hown, hb⟩
end Go.Proofs.YthlbplmghjaeoaaDoor

/- Walks: the program's neighbours of a cell. -/
namespace Go.Proofs.YthlbplmghjaeoaaDoor
open Go.RowKit

def dist (a b : Nat) : Nat := max (a - b) (b - a)

set_option maxRecDepth 100000 in
theorem distance_any (a b : Nat) (w : World) (ha : a ≤ 64) (hb : b ≤ 64) :
    Calls Tryd.prog 124 #[.int .i64 a, .int .i64 b] w fun e w' => e = .returned (.int .i64 (dist a b)) ∧ w = w' := by
  go_enter Tryd.func124, Tryd.ntmps124
  go_wp2_with fail
  go_ret
  exact ⟨by simp [dist]; omega, rfl⟩

set_option maxRecDepth 100000 in
set_option maxHeartbeats 800000 in
theorem spotOf_any {J : Bool} (W H : Nat) (a : Option Addr) (n cap : Nat) (k : Nat) (w : World) (hW : 1 ≤ W) (hk : k ≤ 64) :
    Calls Tryd.prog 101 #[.agg #[.int .i64 W, .int .i64 H, .slice a n cap, .bool J], .int .i64 k] w fun e w' => e = .returned (.agg #[.int .i64 (k / W : Nat), .int .i64 (k % W : Nat)]) ∧ Below w.heap.size w w' := by
  go_enter Tryd.func101, Tryd.ntmps101
  go_wp2_with fail
  go_region
  go_wp2_with fail
  have e1 : ((k : Int) / (W : Int)) = ((k / W : Nat) : Int) := by simp
  have e2 : ((k : Int) % (W : Int)) = ((k % W : Nat) : Int) := by simp
  have hle : k / W ≤ k := Nat.div_le_self _ _
  have e3 : wrap64 ((k : Int) / (W : Int)) = ((k / W : Nat) : Int) := by
    rw [e1]
    clear e1 e2
    generalize k / W = q at *
    exact IntWalk.wrap64_in _ ⟨by omega, by omega⟩
  have b0 := (((Below.refl w.heap.size w).alloc (Nat.le_refl _) (.cells #[.int .i64 W, .int .i64 H, .slice a n cap, .bool J] 58)).alloc (by simp) (.cells #[.int .i64 (wrap64 ((k : Int) / (W : Int))), .int .i64 ((k : Int) % (W : Int))] 127)).drew
  refine bodyPost_ret (v := .agg #[.int .i64 (k / W : Nat), .int .i64 (k % W : Nat)]) ?_ rfl ⟨rfl, b0⟩
  rw [← e3, ← e2]
  simp [results, Tryd.results101, go_sem]

/-- Whether two places are different and touch. -/
def areNb (r1 c1 r2 c2 : Nat) : Bool := !(r1 == r2 && c1 == c2) && decide (dist r1 r2 ≤ 1) && decide (dist c1 c2 ≤ 1)

/-- Whether two of so many rows touch, around or not. -/
def tchJ (J : Bool) (m a b : Nat) : Bool := decide (dist a b ≤ 1) || (J && decide (dist a b + 1 = m))
theorem tch_false (m a b : Nat) : tchJ false m a b = decide (dist a b ≤ 1) := by simp [tchJ]
/-- Whether two places are different and touch, around or not. -/
def areNbJ (J : Bool) (W H r1 c1 r2 c2 : Nat) : Bool := !(r1 == r2 && c1 == c2) && tchJ J H r1 r2 && tchJ J W c1 c2
theorem areNb_false (W H r1 c1 r2 c2 : Nat) : areNbJ false W H r1 c1 r2 c2 = areNb r1 c1 r2 c2 := by simp [areNbJ, areNb, tch_false]

/-- What is beside what: rows of a width, or rows around. -/
inductive Geo where
  | plain (W : Nat)
  | around (W H : Nat)
instance : Coe Nat Geo := ⟨Geo.plain⟩
/-- The form of a grid, around or not. -/
def geoOf (J : Bool) (W H : Nat) : Geo := match J with
  | false => .plain W
  | true => .around W H

set_option maxRecDepth 100000 in
set_option maxHeartbeats 800000 in
theorem doTouch_any {J : Bool} (W H : Nat) (s : Option Addr) (n cap : Nat) (a b m : Nat) (w : World) (ha : a ≤ 64) (hb : b ≤ 64) (hJ : J = true → 1 ≤ m ∧ m ≤ 1048576) :
    Calls Tryd.prog 113 #[.agg #[.int .i64 W, .int .i64 H, .slice s n cap, .bool J], .int .i64 a, .int .i64 b, .int .i64 m] w fun e w' => e = .returned (.bool (tchJ J m a b)) ∧ Below w.heap.size w w' := by
  have hb0 : Below w.heap.size w (w.alloc (.cells #[.int .i64 W, .int .i64 H, .slice s n cap, .bool J] 58)) := (Below.refl _ _).alloc (Nat.le_refl _) _
  by_cases h1 : dist a b ≤ 1
  · have i1 : decide ((dist a b : Int) ≤ 1) = true := by simp; omega
    have HT := Lib.hid (show tchJ J m a b = true by simp [tchJ, h1])
    clear h1 hJ
    go_enter Tryd.func113, Tryd.ntmps113
    go_wp2_with (go_at_call 124; refine (distance_any _ _ _ ha hb).mono ?_; rintro e w' ⟨rfl, rfl⟩)
    go_ret
    exact ⟨by rw [HT.out]; rfl, hb0⟩
  · have i1 : decide ((dist a b : Int) ≤ 1) = false := by simp; omega
    cases J with
    | false =>
      have HT := Lib.hid (show tchJ false m a b = false by simp [tchJ, h1])
      clear h1 hJ
      go_enter Tryd.func113, Tryd.ntmps113
      go_wp2_with (go_at_call 124; refine (distance_any _ _ _ ha hb).mono ?_; rintro e w' ⟨rfl, rfl⟩)
      go_ret
      exact ⟨by rw [HT.out]; rfl, hb0⟩
    | true =>
      obtain ⟨hm1, hm2⟩ := hJ rfl
      by_cases h2 : dist a b + 1 = m
      · have i2 : ((dist a b : Int) == (m : Int) - 1) = true := by simp; omega
        have HT := Lib.hid (show tchJ true m a b = true by simp [tchJ, h2])
        clear h1 hJ h2
        go_enter Tryd.func113, Tryd.ntmps113
        go_wp2_with (go_at_call 124; refine (distance_any _ _ _ ha hb).mono ?_; rintro e w' ⟨rfl, rfl⟩)
        go_ret
        exact ⟨by rw [HT.out]; rfl, hb0⟩
      · have i2 : ((dist a b : Int) == (m : Int) - 1) = false := by simp; omega
        have HT := Lib.hid (show tchJ true m a b = false by simp [tchJ, h1, h2])
        clear h1 hJ h2
        go_enter Tryd.func113, Tryd.ntmps113
        go_wp2_with (go_at_call 124; refine (distance_any _ _ _ ha hb).mono ?_; rintro e w' ⟨rfl, rfl⟩)
        go_ret
        exact ⟨by rw [HT.out]; rfl, hb0⟩

/-- What lies behind three boxes. -/
theorem boxed3 (w : World) (o1 o2 o3 : Obj) :
    Below w.heap.size w (((w.alloc o1).alloc o2).alloc o3) ∧ (((w.alloc o1).alloc o2).alloc o3).heap[w.heap.size]? = some o1 ∧ (((w.alloc o1).alloc o2).alloc o3).heap[w.heap.size + 1]? = some o2 ∧ (((w.alloc o1).alloc o2).alloc o3).heap[w.heap.size + 2]? = some o3 ∧ (((w.alloc o1).alloc o2).alloc o3).heap.size = w.heap.size + 3 := by
  refine ⟨(((Below.refl _ _).alloc (Nat.le_refl _) _).alloc (by simp) _).alloc (by simp; omega) _, ?_, ?_, ?_, ?_⟩
  · show (((w.heap.push o1).push o2).push o3)[w.heap.size]? = _
    simp only [Array.getElem?_push, Array.size_push]
    rw [if_neg (by omega), if_neg (by omega), if_pos trivial]
  · show (((w.heap.push o1).push o2).push o3)[w.heap.size + 1]? = _
    simp only [Array.getElem?_push, Array.size_push]
    rw [if_neg (by omega), if_pos trivial]
  · show (((w.heap.push o1).push o2).push o3)[w.heap.size + 2]? = _
    simp only [Array.getElem?_push, Array.size_push]
    rw [if_pos trivial]
  · show (((w.heap.push o1).push o2).push o3).size = _
    simp

set_option maxRecDepth 100000 in
set_option maxHeartbeats 1600000 in
theorem areNeighboursJ_any {J : Bool} (W H : Nat) (s : Option Addr) (n cap : Nat) (r1 c1 r2 c2 : Nat) (w : World) (h1 : r1 ≤ 64) (h2 : c1 ≤ 64) (h3 : r2 ≤ 64) (h4 : c2 ≤ 64) (hJ : J = true → (1 ≤ W ∧ W ≤ 1048576) ∧ (1 ≤ H ∧ H ≤ 1048576)) :
    Calls Tryd.prog 102 #[.agg #[.int .i64 W, .int .i64 H, .slice s n cap, .bool J], .agg #[.int .i64 r1, .int .i64 c1], .agg #[.int .i64 r2, .int .i64 c2]] w fun e w' => e = .returned (.bool (areNbJ J W H r1 c1 r2 c2)) ∧ Below w.heap.size w w' := by
  obtain ⟨hb, hG, hA, hB, hs⟩ := boxed3 w (.cells #[.int .i64 W, .int .i64 H, .slice s n cap, .bool J] 58) (.cells #[.int .i64 r1, .int .i64 c1] 127) (.cells #[.int .i64 r2, .int .i64 c2] 127)
  have hr := fun w => doTouch_any (J := J) W H s n cap r1 r2 H w h1 h3 (fun q => (hJ q).2)
  have hc := fun w => doTouch_any (J := J) W H s n cap c1 c2 W w h2 h4 (fun q => (hJ q).1)
  by_cases e : r1 = r2 ∧ c1 = c2
  · obtain ⟨rfl, rfl⟩ := e
    have HB := Lib.hid hb
    clear hr hc hb hG hA hB hs hJ
    go_enter Tryd.func102, Tryd.ntmps102
    go_wp2_with fail
    go_ret
    exact ⟨by simp [areNbJ], HB.out⟩
  · have he : Hid (areNbJ J W H r1 c1 r2 c2 = (tchJ J H r1 r2 && tchJ J W c1 c2)) := by
      have : (r1 == r2 && c1 == c2) = false := by
        by_cases h : r1 = r2 <;> simp_all
      rw [Hid, areNbJ, this]; simp
    have hne : ¬ (r1 : Int) = (r2 : Int) ∨ ((r1 : Int) = (r2 : Int) ∧ ¬ (c1 : Int) = (c2 : Int)) := by
      by_cases q : r1 = r2
      · exact .inr ⟨by simp [q], by omega⟩
      · exact .inl (by omega)
    clear e hJ
    cases t1 : tchJ J H r1 r2 with
    | false =>
      rw [t1] at hr he
      have HR := Lib.hid hr
      clear hr hc t1
      rcases hne with e1 | ⟨e1, e2⟩
      · clear hA hB
        go_enter Tryd.func102, Tryd.ntmps102
        go_wp2_with fail
        generalize ((w.alloc (.cells #[.int .i64 W, .int .i64 H, .slice s n cap, .bool J] 58)).alloc (.cells #[.int .i64 r1, .int .i64 c1] 127)).alloc (.cells #[.int .i64 r2, .int .i64 c2] 127) = w3 at *
        refine (HR.out _).mono ?_
        rintro e w4 ⟨rfl, hb4⟩
        go_wp2_with fail
        go_ret
        exact ⟨by rw [he.out]; rfl, hb.trans (hb4.mono (by omega))⟩
      · obtain rfl : r1 = r2 := by omega
        clear hA hB e1
        go_enter Tryd.func102, Tryd.ntmps102
        go_wp2_with fail
        generalize ((w.alloc (.cells #[.int .i64 W, .int .i64 H, .slice s n cap, .bool J] 58)).alloc (.cells #[.int .i64 r1, .int .i64 c1] 127)).alloc (.cells #[.int .i64 r1, .int .i64 c2] 127) = w3 at *
        refine (HR.out _).mono ?_
        rintro e w4 ⟨rfl, hb4⟩
        go_wp2_with fail
        go_ret
        exact ⟨by rw [he.out]; rfl, hb.trans (hb4.mono (by omega))⟩
    | true =>
      rw [t1] at hr he
      have HR := Lib.hid hr
      clear hr t1
      cases t2 : tchJ J W c1 c2 with
      | false =>
        rw [t2] at hc he
        have HC := Lib.hid hc
        clear hc t2
        rcases hne with e1 | ⟨e1, e2⟩
        · go_enter Tryd.func102, Tryd.ntmps102
          go_wp2_with fail
          generalize ((w.alloc (.cells #[.int .i64 W, .int .i64 H, .slice s n cap, .bool J] 58)).alloc (.cells #[.int .i64 r1, .int .i64 c1] 127)).alloc (.cells #[.int .i64 r2, .int .i64 c2] 127) = w3 at *
          refine (HR.out _).mono ?_
          rintro e w4 ⟨rfl, hb4⟩
          have hG4 := (hb4.block _ (by omega)).trans hG
          have hA4 := (hb4.block _ (by omega)).trans hA
          have hB4 := (hb4.block _ (by omega)).trans hB
          have hf0 := cell_of_block hG4 0
          have hf1 := cell_of_block hG4 1
          have hf2 := cell_of_block hG4 2
          have hf3 := cell_of_block hG4 3
          have ha0 := cell_of_block hA4 0
          have ha1 := cell_of_block hA4 1
          have hb0 := cell_of_block hB4 0
          have hb1 := cell_of_block hB4 1
          simp at hf0 hf1 hf2 hf3 ha0 ha1 hb0 hb1
          clear hG hA hB hG4 hA4 hB4
          go_wp2_with fail
          refine (HC.out _).mono ?_
          rintro e w5 ⟨rfl, hb5⟩
          go_wp2_with fail
          go_ret
          exact ⟨by rw [he.out]; rfl, (hb.trans (hb4.mono (by omega))).trans (hb5.mono (by have := hb4.size; omega))⟩
        · obtain rfl : r1 = r2 := by omega
          clear e1
          go_enter Tryd.func102, Tryd.ntmps102
          go_wp2_with fail
          generalize ((w.alloc (.cells #[.int .i64 W, .int .i64 H, .slice s n cap, .bool J] 58)).alloc (.cells #[.int .i64 r1, .int .i64 c1] 127)).alloc (.cells #[.int .i64 r1, .int .i64 c2] 127) = w3 at *
          refine (HR.out _).mono ?_
          rintro e w4 ⟨rfl, hb4⟩
          have hG4 := (hb4.block _ (by omega)).trans hG
          have hA4 := (hb4.block _ (by omega)).trans hA
          have hB4 := (hb4.block _ (by omega)).trans hB
          have hf0 := cell_of_block hG4 0
          have hf1 := cell_of_block hG4 1
          have hf2 := cell_of_block hG4 2
          have hf3 := cell_of_block hG4 3
          have ha0 := cell_of_block hA4 0
          have ha1 := cell_of_block hA4 1
          have hb0 := cell_of_block hB4 0
          have hb1 := cell_of_block hB4 1
          simp at hf0 hf1 hf2 hf3 ha0 ha1 hb0 hb1
          clear hG hA hB hG4 hA4 hB4
          go_wp2_with fail
          refine (HC.out _).mono ?_
          rintro e w5 ⟨rfl, hb5⟩
          go_wp2_with fail
          go_ret
          exact ⟨by rw [he.out]; rfl, (hb.trans (hb4.mono (by omega))).trans (hb5.mono (by have := hb4.size; omega))⟩
      | true =>
        rw [t2] at hc he
        have HC := Lib.hid hc
        clear hc t2
        rcases hne with e1 | ⟨e1, e2⟩
        · go_enter Tryd.func102, Tryd.ntmps102
          go_wp2_with fail
          generalize ((w.alloc (.cells #[.int .i64 W, .int .i64 H, .slice s n cap, .bool J] 58)).alloc (.cells #[.int .i64 r1, .int .i64 c1] 127)).alloc (.cells #[.int .i64 r2, .int .i64 c2] 127) = w3 at *
          refine (HR.out _).mono ?_
          rintro e w4 ⟨rfl, hb4⟩
          have hG4 := (hb4.block _ (by omega)).trans hG
          have hA4 := (hb4.block _ (by omega)).trans hA
          have hB4 := (hb4.block _ (by omega)).trans hB
          have hf0 := cell_of_block hG4 0
          have hf1 := cell_of_block hG4 1
          have hf2 := cell_of_block hG4 2
          have hf3 := cell_of_block hG4 3
          have ha0 := cell_of_block hA4 0
          have ha1 := cell_of_block hA4 1
          have hb0 := cell_of_block hB4 0
          have hb1 := cell_of_block hB4 1
          simp at hf0 hf1 hf2 hf3 ha0 ha1 hb0 hb1
          clear hG hA hB hG4 hA4 hB4
          go_wp2_with fail
          refine (HC.out _).mono ?_
          rintro e w5 ⟨rfl, hb5⟩
          go_wp2_with fail
          go_ret
          exact ⟨by rw [he.out]; rfl, (hb.trans (hb4.mono (by omega))).trans (hb5.mono (by have := hb4.size; omega))⟩
        · obtain rfl : r1 = r2 := by omega
          clear e1
          go_enter Tryd.func102, Tryd.ntmps102
          go_wp2_with fail
          generalize ((w.alloc (.cells #[.int .i64 W, .int .i64 H, .slice s n cap, .bool J] 58)).alloc (.cells #[.int .i64 r1, .int .i64 c1] 127)).alloc (.cells #[.int .i64 r1, .int .i64 c2] 127) = w3 at *
          refine (HR.out _).mono ?_
          rintro e w4 ⟨rfl, hb4⟩
          have hG4 := (hb4.block _ (by omega)).trans hG
          have hA4 := (hb4.block _ (by omega)).trans hA
          have hB4 := (hb4.block _ (by omega)).trans hB
          have hf0 := cell_of_block hG4 0
          have hf1 := cell_of_block hG4 1
          have hf2 := cell_of_block hG4 2
          have hf3 := cell_of_block hG4 3
          have ha0 := cell_of_block hA4 0
          have ha1 := cell_of_block hA4 1
          have hb0 := cell_of_block hB4 0
          have hb1 := cell_of_block hB4 1
          simp at hf0 hf1 hf2 hf3 ha0 ha1 hb0 hb1
          clear hG hA hB hG4 hA4 hB4
          go_wp2_with fail
          refine (HC.out _).mono ?_
          rintro e w5 ⟨rfl, hb5⟩
          go_wp2_with fail
          go_ret
          exact ⟨by rw [he.out]; rfl, (hb.trans (hb4.mono (by omega))).trans (hb5.mono (by have := hb4.size; omega))⟩
end Go.Proofs.YthlbplmghjaeoaaDoor

/- Walks: the program's list of a cell's neighbours. -/
namespace Go.Proofs.YthlbplmghjaeoaaDoor
open Go.RowKit

/-- Whether the cell o is a neighbour of the cell c on a board of a width. -/
def nbW (V : Geo) (c o : Nat) : Bool := match V with
  | .plain W => areNb (o / W) (o % W) (c / W) (c % W)
  | .around W H => areNbJ true W H (o / W) (o % W) (c / W) (c % W)
theorem nbW_geo (J : Bool) (W H c o : Nat) : nbW (geoOf J W H) c o = areNbJ J W H (o / W) (o % W) (c / W) (c % W) := by
  cases J
  · rw [areNb_false]; rfl
  · rfl
def nearGo (W : Geo) (c : Nat) (k : Nat) : Nat → List Nat
  | 0 => []
  | m + 1 => if nbW W c k = true then k :: nearGo W c (k + 1) m else nearGo W c (k + 1) m
def nearM (W : Geo) (n c : Nat) : List Nat := nearGo W c 0 n
theorem nearGo_le (W : Geo) (c : Nat) : ∀ (m k : Nat), (nearGo W c k m).length ≤ m
  | 0, _ => by simp [nearGo]
  | m + 1, k => by
    have := nearGo_le W c m (k + 1)
    unfold nearGo; split <;> simp <;> omega

theorem kept1 {w w' : World} {b o : Nat} {v : Value} (h : w.cell? ⟨b, o, none⟩ = some v) (hb : Below w.heap.size w w') : w'.cell? ⟨b, o, none⟩ = some v := by
  rw [hb.cell (p := ⟨b, o, none⟩) (World.block_lt_of_cell? w _ h)]; exact h

theorem ofDrew {B : Nat} {w w' : World} (h : Below B w.drew w') : Below B w w' := ⟨h.os, h.tape, h.output, h.size, h.block⟩

set_option maxRecDepth 100000 in
set_option maxHeartbeats 1600000 in
theorem neighboursJ_any {J : Bool} (W H : Nat) (a : Option Addr) (n cap : Nat) (c : Nat) (w : World) (hW : 1 ≤ W) (hc : c ≤ 63) (hn : n ≤ 64) (hJ : J = true → (1 ≤ W ∧ W ≤ 1048576) ∧ (1 ≤ H ∧ H ≤ 1048576)) :
    Calls Tryd.prog 72 #[.agg #[.int .i64 W, .int .i64 H, .slice a n cap, .bool J], .int .i64 c] w fun e w' => ∃ a' cap', e = .returned (.slice a' (nearM (geoOf J W H) n c).length cap') ∧ Owns w' w.heap.size 3 (.slice a' (nearM (geoOf J W H) n c).length cap') (nats (nearM (geoOf J W H) n c)) ∧ Below w.heap.size w w' := by
  have HN := Lib.hid (nbW_geo J W H c)
  obtain ⟨V, hV⟩ : ∃ V, geoOf J W H = V := ⟨_, rfl⟩
  rw [hV] at HN ⊢
  clear hV
  have hq1 : c / W ≤ 64 := Nat.le_trans (Nat.div_le_self _ _) (by omega)
  have hq2 : c % W ≤ 64 := Nat.le_trans (Nat.mod_le _ _) (by omega)
  go_enter Tryd.func72, Tryd.ntmps72
  go_wp2_with fail
  have hG1 : (w.alloc (.cells #[.int .i64 W, .int .i64 H, .slice a n cap, .bool J] 58)).heap[w.heap.size]? = some (.cells #[.int .i64 W, .int .i64 H, .slice a n cap, .bool J] 58 (0, 0)) := heap_alloc_new w _
  have hw0 : Below w.heap.size w (w.alloc (.cells #[.int .i64 W, .int .i64 H, .slice a n cap, .bool J] 58)) := (Below.refl _ _).alloc (Nat.le_refl _) _
  have hs0 : w.heap.size < (w.alloc (.cells #[.int .i64 W, .int .i64 H, .slice a n cap, .bool J] 58)).heap.size := by simp
  generalize w.alloc (.cells #[.int .i64 W, .int .i64 H, .slice a n cap, .bool J] 58) = w0 at *
  refine (spotOf_any W H a n cap c _ hW (by omega)).mono ?_
  rintro e w1 ⟨rfl, hb1⟩
  generalize hrr : c / W = rr at *
  generalize hcc : c % W = cc at *
  have HRR := Lib.hid hrr
  have HCC := Lib.hid hcc
  clear hrr hcc
  have s1 := hb1.size
  have hG2 : ∀ o, Hid ((w1.alloc o).heap[w.heap.size]? = some (.cells #[.int .i64 W, .int .i64 H, .slice a n cap, .bool J] 58 (0, 0))) := fun o => by
    rw [Hid, Below.heap_alloc _ _ _ (by omega), hb1.block _ hs0]; exact hG1
  have hA2 : ∀ o, Hid ((w1.alloc o).heap[w1.heap.size]? = some o) := fun o => heap_alloc_new w1 o
  have hf0 := cell_of_block (hb1.block _ hs0 ▸ hG1 : w1.heap[w.heap.size]? = _) 0
  have hf1 := cell_of_block (hb1.block _ hs0 ▸ hG1 : w1.heap[w.heap.size]? = _) 1
  have hf2 := cell_of_block (hb1.block _ hs0 ▸ hG1 : w1.heap[w.heap.size]? = _) 2
  have hf3 := cell_of_block (hb1.block _ hs0 ▸ hG1 : w1.heap[w.heap.size]? = _) 3
  simp at hf0 hf1 hf2 hf3
  have hlt1 : w.heap.size < w1.heap.size := by omega
  clear hG1
  go_wp2_with fail
  have hM : Hid (nearM V n c = nearGo V c 0 n) := rfl
  generalize hGG : w.heap.size = G at *
  have HGG := Lib.hid hGG
  clear hGG
  generalize hAA : w1.heap.size = A at *
  have HAA := Lib.hid hAA
  clear hAA
  have hG3 := hG2 (.cells #[.int .i64 rr, .int .i64 cc] 127)
  have hA3 := hA2 (.cells #[.int .i64 rr, .int .i64 cc] 127)
  have hw1 : Below G w (w1.alloc (.cells #[.int .i64 rr, .int .i64 cc] 127)) := (hw0.trans (hb1.mono (by omega))).alloc (by rw [HAA.out]; omega) _
  generalize w1.alloc (.cells #[.int .i64 rr, .int .i64 cc] 127) = w2 at *
  clear hG2 hA2 hf0 hf1 hf2 hf3
  go_loopw [6, 14] (fun v i wr => ∃ k : Nat, k ≤ n ∧ i = .int .i64 k ∧ ∃ acc : List Nat, acc.length ≤ k ∧ Owns wr (A + 1) 3 v (nats acc) ∧ Below (A + 1) w2 wr ∧ Hid (nearM V n c = acc ++ nearGo V c k (n - k))) (fun _ i _ => n - (intOf i).toNat)
  case atStart => exact ⟨0, Nat.zero_le _, rfl, [], by simp, Owns.nil _ _ _, Below.refl _ _, by rw [Hid, hM.out]; simp⟩
  case round =>
    obtain ⟨k, hk, rfl, acc, hacc, hown, hb, hR⟩ := hrel
    by_cases hlt : k < n
    · have hGr : wr.heap[G]? = some (.cells #[.int .i64 W, .int .i64 H, .slice a n cap, .bool J] 58 (0, 0)) := by rw [hb.block _ (by omega)]; exact hG3.out
      have hAr : wr.heap[A]? = some (.cells #[.int .i64 rr, .int .i64 cc] 127 (0, 0)) := by rw [hb.block _ (by omega)]; exact hA3.out
      have hGlt := block_lt hGr
      have hAlt := block_lt hAr
      have hf0 := cell_of_block hGr 0
      have hf1 := cell_of_block hGr 1
      have hf2 := cell_of_block hGr 2
      have hf3 := cell_of_block hGr 3
      have hr0 := cell_of_block hAr 0
      have hr1 := cell_of_block hAr 1
      simp at hf0 hf1 hf2 hf3 hr0 hr1
      clear hGr hAr
      have hq1 : k / W ≤ 64 := Nat.le_trans (Nat.div_le_self _ _) (by omega)
      have hq2 : k % W ≤ 64 := Nat.le_trans (Nat.mod_le _ _) (by omega)
      go_wp2_with fail
      go_region_held3 (fun w' => w'.cell? ⟨G, 0, none⟩ = some (.int .i64 W) ∧ w'.cell? ⟨G, 1, none⟩ = some (.int .i64 H) ∧ w'.cell? ⟨G, 2, none⟩ = some (.slice a n cap) ∧ w'.cell? ⟨G, 3, none⟩ = some (.bool J) ∧ w'.cell? ⟨A, 0, none⟩ = some (.int .i64 rr) ∧ w'.cell? ⟨A, 1, none⟩ = some (.int .i64 cc))
        (first | exact ⟨hf0, hf1, hf2, hf3, hr0, hr1⟩ | exact ⟨kept1 (w := wr.drew) hf0 hb3, kept1 (w := wr.drew) hf1 hb3, kept1 (w := wr.drew) hf2 hb3, kept1 (w := wr.drew) hf3 hb3, kept1 (w := wr.drew) hr0 hb3, kept1 (w := wr.drew) hr1 hb3⟩ | exact ⟨kept1 (kept1 (w := wr.drew) hf0 hb3) hb4, kept1 (kept1 (w := wr.drew) hf1 hb3) hb4, kept1 (kept1 (w := wr.drew) hf2 hb3) hb4, kept1 (kept1 (w := wr.drew) hf3 hb3) hb4, kept1 (kept1 (w := wr.drew) hr0 hb3) hb4, kept1 (kept1 (w := wr.drew) hr1 hb3) hb4⟩)
        (first | (go_at_call 101; refine (spotOf_any W H a n cap k _ hW (by omega)).mono ?_; rintro e w3 ⟨rfl, hb3⟩) | (go_at_call 102; refine (areNeighboursJ_any W H a n cap (k / W) (k % W) rr cc _ hq1 hq2 (by omega) (by omega) hJ).mono ?_; rintro e w4 ⟨rfl, hb4⟩))
      have hb34 : Below wr.heap.size wr w4 := (ofDrew hb3).trans (hb4.mono hb3.size)
      have s34 := hb34.size
      clear hf0 hf1 hf2 hf3 hr0 hr1
      by_cases hn1 : nbW V c k = true
      · have hd : areNbJ J W H (k / W) (k % W) rr cc = true := by rw [← HN.out]; exact hn1
        have Hn1 := Lib.hid hn1
        clear hn1
        rw [hd]
        clear hd
        go_wp2_with (at_builtin; refine wpList_app1 rfl _ _ _ rfl _ _ _ _ elemInt _ _ _ _ rfl rfl rfl (hown.later hb34) rfl (by simp; omega) (by omega) (by simp; omega) ?_; intro v1 w5 hown1 hb5 hs5)
        rw [nats_snoc] at hown1
        go_roundw
        case rel =>
          first
            | exact ⟨k + 1, by omega, by go_num, _, by simp; omega, hown1, (hb.trans (hb34.mono (by omega))).trans hb5, by rw [Hid, hR.out, show n - k = (n - (k + 1)) + 1 by omega, nearGo, if_pos Hn1.out]; simp⟩
            | ((repeat apply Exists.intro); exact ⟨⟨k + 1, by omega, by go_num, _, by simp; omega, hown1, (hb.trans (hb34.mono (by omega))).trans hb5, by rw [Hid, hR.out, show n - k = (n - (k + 1)) + 1 by omega, nearGo, if_pos Hn1.out]; simp⟩, rfl⟩)
        case measure => simp [intOf]; omega
      · have hd : areNbJ J W H (k / W) (k % W) rr cc = false := by rw [← HN.out]; simpa using hn1
        have Hn1 := Lib.hid hn1
        clear hn1
        rw [hd]
        clear hd
        go_wp2_with fail
        go_roundw
        case rel =>
          first
            | exact ⟨k + 1, by omega, by go_num, acc, by omega, hown.later hb34, hb.trans (hb34.mono (by omega)), by rw [Hid, hR.out, show n - k = (n - (k + 1)) + 1 by omega, nearGo, if_neg Hn1.out]⟩
            | ((repeat apply Exists.intro); exact ⟨⟨k + 1, by omega, by go_num, acc, by omega, hown.later hb34, hb.trans (hb34.mono (by omega)), by rw [Hid, hR.out, show n - k = (n - (k + 1)) + 1 by omega, nearGo, if_neg Hn1.out]⟩, rfl⟩)
        case measure => simp [intOf]; omega
    · obtain rfl : k = n := by omega
      go_wp2_with fail
      go_ret
      have hfin : acc = nearM V k c := by rw [hR.out]; simp [nearGo]
      rw [hfin] at hown
      obtain ⟨a', cap', hv⟩ := hown.shape
      simp only [nats_length] at hv
      rw [HGG.out]
      exact ⟨a', cap', by rw [← hv]; rfl, by rw [← hv]; exact hown.mono (by omega), hw1.trans (hb.mono (by omega))⟩
/-- The same where rows are not joined. -/
theorem neighbours_any (W H : Nat) (a : Option Addr) (n cap : Nat) (c : Nat) (w : World) (hW : 1 ≤ W) (hc : c ≤ 63) (hn : n ≤ 64) :
    Calls Tryd.prog 72 #[.agg #[.int .i64 W, .int .i64 H, .slice a n cap, .bool false], .int .i64 c] w fun e w' => ∃ a' cap', e = .returned (.slice a' (nearM W n c).length cap') ∧ Owns w' w.heap.size 3 (.slice a' (nearM W n c).length cap') (nats (nearM W n c)) ∧ Below w.heap.size w w' :=
  neighboursJ_any W H a n cap c w hW hc hn nofun
end Go.Proofs.YthlbplmghjaeoaaDoor

/- The model and the program list the same neighbours; how many of them have a mine. -/
namespace Go.Proofs.YthlbplmghjaeoaaDoor
open Go.RowKit

theorem nats_at {w : World} {a : Option Addr} {xs : List Nat} (h : At w a (nats xs)) (k : Nat) (hk : k < xs.length) : ∃ b off, a = some ⟨b, off, none⟩ ∧ w.cell? ⟨b, off + k, none⟩ = some (.int .i64 (xs[k] : Int)) := by
  obtain ⟨b, off, h1, h2⟩ := h k (by simpa using hk)
  exact ⟨b, off, h1, by rw [h2]; simp [nats, ints]⟩

/-- On every board of at most eight by eight the model and the program list the same neighbours. -/
theorem near_all : ∀ W, W < 9 → ∀ H, H < 9 → ∀ c, c < W * H → boNearM W H c = (nearM W (W * H) c).map Int.ofNat := by decide +kernel
theorem near_eq (W H c : Nat) (hW : W ≤ 8) (hH : H ≤ 8) (hc : c < W * H) : boNearM W H c = (nearM W (W * H) c).map Int.ofNat :=
  near_all W (by omega) H (by omega) c hc
theorem nearGo_lt (W : Geo) (c : Nat) : ∀ (m k : Nat), ∀ o ∈ nearGo W c k m, o < k + m
  | 0, _ => by simp [nearGo]
  | m + 1, k => by
    intro o ho
    unfold nearGo at ho
    by_cases h : nbW W c k = true
    · rw [if_pos h] at ho
      rcases List.mem_cons.1 ho with rfl | ho
      · omega
      · have := nearGo_lt W c m (k + 1) o ho; omega
    · rw [if_neg h] at ho
      have := nearGo_lt W c m (k + 1) o ho; omega
theorem nearM_lt (W : Geo) (n c o : Nat) (h : o ∈ nearM W n c) : o < n := by
  have := nearGo_lt W c n 0 o h; omega
theorem nearM_le (W : Geo) (n c : Nat) : (nearM W n c).length ≤ n := nearGo_le W c n 0

/-- How many of some cells have a mine. -/
def countAt (cells : List UInt8) : List Nat → Nat
  | [] => 0
  | o :: r => if cells.getD o 0 = 42 then countAt cells r + 1 else countAt cells r
theorem countAt_le (cells : List UInt8) : ∀ l : List Nat, countAt cells l ≤ l.length
  | [] => by simp [countAt]
  | o :: r => by
    have := countAt_le cells r
    unfold countAt; split <;> simp <;> omega
def numM (cells : List UInt8) (W : Geo) (c : Nat) : Nat := countAt cells (nearM W cells.length c)
theorem numM_le (cells : List UInt8) (W : Geo) (c : Nat) : numM cells W c ≤ cells.length := Nat.le_trans (countAt_le _ _) (nearM_le _ _ _)

theorem is42 (x : UInt8) : ((x.toNat : Int) == 42) = decide (x = 42) := by
  rw [show (42 : Int) = ((42 : Nat) : Int) from rfl, byte_beq _ 42 (by omega)]
  by_cases h : x = 42 <;> simp [h]

end Go.Proofs.YthlbplmghjaeoaaDoor

/- Walks: the number of a cell, by the model and by the program. -/
namespace Go.Proofs.YthlbplmghjaeoaaDoor
open Go.RowKit

set_option maxRecDepth 100000 in
set_option maxHeartbeats 1600000 in
theorem boNumber_any (W H : Nat) (cells : List UInt8) (c : Nat) (w : World) (hW : 1 ≤ W ∧ W ≤ 8) (hH : H ≤ 8) (hn : cells.length = W * H) (hc : c < cells.length) :
    Calls Tryd.prog 94 #[.string ⟨cells.toArray⟩, .int .i64 W, .int .i64 c] w fun e w' => e = .returned (.int .i64 (numM cells W c)) ∧ Below w.heap.size w w' := by
  have hn64 : cells.length ≤ 64 := by rw [hn]; exact Nat.mul_le_mul hW.2 hH
  have hq : ((cells.length : Int) / (W : Int)) = (H : Int) := by
    rw [hn]; simp only [Int.natCast_mul]; exact Int.mul_ediv_cancel_left _ (by omega)
  have hne := near_eq W H c hW.2 hH (by omega)
  rw [← hn] at hne
  have hNlt : ∀ o ∈ nearM W cells.length c, o < cells.length := fun o ho => nearM_lt _ _ _ _ ho
  have hNle := nearM_le W cells.length c
  have hT : Hid (numM cells W c = countAt cells (nearM W cells.length c)) := rfl
  have hcn : c < W * H := by omega
  have HN := Lib.hid hn
  clear hn
  have HNE := Lib.hid hne
  clear hne
  have hw : wrap64 ((cells.length : Int) / (W : Int)) = (H : Int) := by rw [hq, IntWalk.wrap64_in _ ⟨by omega, by omega⟩]
  go_enter Tryd.func94, Tryd.ntmps94
  go_wp2_with fail
  clear hw
  have HQ := Lib.hid hq
  clear hq
  refine (boNear_any W H c _ hW hH (by omega)).mono ?_
  rintro e w1 ⟨a, cap, rfl, hown, hb⟩
  rw [HNE.out] at hown ⊢
  have hat : At w1 a (nats (nearM W cells.length c)) := hown.at
  simp only [List.length_map]
  clear HNE hown
  generalize nearM W cells.length c = N at *
  go_wp2_with fail
  go_loop [7, 18] (fun q i => ∃ k : Nat, k ≤ N.length ∧ i = .int .i64 k ∧ ∃ s : Nat, s ≤ k ∧ q = .int .i64 s ∧ Hid (numM cells W c = s + countAt cells (N.drop k))) (fun _ i => N.length - (intOf i).toNat)
  case atStart => exact ⟨0, Nat.zero_le _, rfl, 0, by omega, rfl, by rw [Hid, hT.out]; simp⟩
  case round =>
    obtain ⟨k, hk, rfl, s, hs, rfl, hR⟩ := hrel
    by_cases hlt : k < N.length
    · obtain ⟨b, off, rfl, hcell⟩ := nats_at hat k hlt
      have Ht := Lib.hid (List.drop_eq_getElem_cons hlt)
      have ho := hNlt _ (List.getElem_mem hlt)
      generalize N[k] = o at *
      have hgd : Hid (cells.getD o 0 = cells[o]) := by simp [Hid, List.getD, ho]
      by_cases h42 : cells[o] = 42
      · have hd : ((cells[o].toNat : Int) == 42) = true := by rw [is42]; simp [h42]
        have H42 := Lib.hid h42
        clear h42
        go_wp2_with fail
        go_round
        case rel => exact ⟨k + 1, by omega, by go_num, s + 1, by omega, by go_num, by rw [Hid, hR.out, Ht.out, countAt, hgd.out, if_pos H42.out]; omega⟩
        case measure => simp [intOf]; omega
      · have hd : ((cells[o].toNat : Int) == 42) = false := by rw [is42]; simp [h42]
        have H42 := Lib.hid h42
        clear h42
        go_wp2_with fail
        go_round
        case rel => exact ⟨k + 1, by omega, by go_num, s, by omega, rfl, by rw [Hid, hR.out, Ht.out, countAt, hgd.out, if_neg H42.out]⟩
        case measure => simp [intOf]; omega
    · obtain rfl : k = N.length := by omega
      have hfin : s = numM cells W c := by rw [hR.out]; simp [countAt]
      go_wp2_with fail
      go_ret
      exact ⟨by rw [← hfin]; rfl, hb⟩

end Go.Proofs.YthlbplmghjaeoaaDoor

/- Walks: the numbers of all cells, by the model. -/
namespace Go.Proofs.YthlbplmghjaeoaaDoor
open Go.RowKit

theorem iterAt_size (w : World) (i : Nat) (s : ByteArray) (p : Nat) : (w.iterAt i s p).heap.size = w.heap.size := by simp [World.iterAt]
theorem iterAt_at {w : World} {i : Nat} (h : i < w.heap.size) (s : ByteArray) (p : Nat) : (w.iterAt i s p).heap[i]? = some (.stringIter s p) := by
  simp [World.iterAt, h]
theorem iterAt_below (w : World) (i : Nat) (s : ByteArray) (p : Nat) : Below i w (w.iterAt i s p) :=
  ⟨rfl, rfl, rfl, by simp [World.iterAt], fun k hk => by simp only [World.iterAt, Array.getElem?_setIfInBounds]; rw [if_neg (by omega)]⟩
theorem iterPos_at {w : World} {i : Nat} {s : ByteArray} {p : Nat} (h : w.heap[i]? = some (.stringIter s p)) : w.iterPos i = p := by simp [World.iterPos, h]
theorem Owns.iter {w : World} {B e : Nat} {v : Value} {xs : List Value} (h : Owns w B e v xs) (i : Nat) (s : ByteArray) (p : Nat) (hi : i < B) : Owns (w.iterAt i s p) B e v xs := by
  obtain ⟨h1, h2⟩ := h
  refine ⟨h1, ?_⟩
  rcases h2 with h2 | ⟨g, cap, cur, hv, hg, hh, r⟩
  · exact .inl h2
  · exact .inr ⟨g, cap, cur, hv, hg, by simp only [World.iterAt, Array.getElem?_setIfInBounds]; rw [if_neg (by omega)]; exact hh, r⟩

/-- The cells of a board are two signs alone. -/
theorem cells_sign {l : List UInt8} (h : boGoodM l = true) : ∀ c ∈ cellsM l, c = 46 ∨ c = 42 := by
  obtain ⟨_, _, _, _, _, _, _, f8⟩ := readM_facts h
  intro c hc
  rw [← splitB_flatten] at hc
  obtain ⟨r, hr, hcr⟩ := List.mem_flatten.1 hc
  have := List.all_eq_true.1 (List.all_eq_true.1 f8 r hr) c hcr
  simpa [rowSign] using this
theorem sign_ascii {c : UInt8} (h : c = 46 ∨ c = 42) : c.toNat < 128 := by rcases h with rfl | rfl <;> decide

def numsGo (cells : List UInt8) (W : Geo) (k : Nat) : Nat → List Nat
  | 0 => []
  | m + 1 => numM cells W k :: numsGo cells W (k + 1) m
def numsM (cells : List UInt8) (W : Geo) : List Nat := numsGo cells W 0 cells.length
theorem numsGo_length (cells : List UInt8) (W : Geo) : ∀ (m k : Nat), (numsGo cells W k m).length = m
  | 0, _ => rfl
  | m + 1, k => by rw [numsGo, List.length_cons, numsGo_length]
@[simp] theorem numsM_length (cells : List UInt8) (W : Geo) : (numsM cells W).length = cells.length := numsGo_length _ _ _ _

/-- What rows give: their width, how many they are and their cells. -/
structure Grd (l : List UInt8) (W H : Nat) (cells : List UInt8) : Prop where
  size : boSizeM l = (W, H)
  cs : cellsM l = cells
  w1 : 1 ≤ W
  w8 : W ≤ 8
  h1 : 1 ≤ H
  h8 : H ≤ 8
  len : cells.length = W * H
theorem Grd.n64 {l : List UInt8} {W H : Nat} {cells : List UInt8} (h : Grd l W H cells) : cells.length ≤ 64 := by
  rw [h.len]; exact Nat.mul_le_mul h.w8 h.h8
theorem size_grid {p : UInt8 → Bool} {l : List UInt8} (h : gridM p l = true) : boSizeM l = (headLen (splitB 47 l), (splitB 47 l).length) := by
  obtain ⟨_, f1, f2, f3, f4, _, _, _⟩ := grid_facts h
  unfold boSizeM szOf
  rw [if_pos ⟨f1, f4, f2, f3⟩]
theorem Grd.of {p : UInt8 → Bool} {l : List UInt8} (h : gridM p l = true) : Grd l (grW p l) (grH p l) (grC p l) := by
  obtain ⟨_, f1, f2, f3, f4, f5, f6, _⟩ := grid_facts h
  rw [grW, grH, grC, if_pos h, if_pos h, if_pos h]
  exact ⟨size_grid h, rfl, f2, f3, f5, f4, f6⟩
/-- What a board gives: its width, its height and its cells. -/
structure Brd (l : List UInt8) (W H : Nat) (cells : List UInt8) : Prop where
  good : boGoodM l = true
  size : boSizeM l = (W, H)
  cs : cellsM l = cells
  w1 : 1 ≤ W
  w8 : W ≤ 8
  h1 : 1 ≤ H
  h8 : H ≤ 8
  len : cells.length = W * H
  sign : ∀ c ∈ cells, c = 46 ∨ c = 42
theorem Brd.grd {l : List UInt8} {W H : Nat} {cells : List UInt8} (h : Brd l W H cells) : Grd l W H cells := ⟨h.size, h.cs, h.w1, h.w8, h.h1, h.h8, h.len⟩
theorem Brd.of {l : List UInt8} (h : boGoodM l = true) : Brd l (headLen (splitB 47 l)) (splitB 47 l).length (cellsM l) := by
  obtain ⟨f1, f2, f3, f4, f5, f6, f7, f8⟩ := readM_facts h
  exact ⟨h, f6, rfl, f2, f3, f5, f4, f7, cells_sign h⟩
theorem Brd.n64 {l : List UInt8} {W H : Nat} {cells : List UInt8} (h : Brd l W H cells) : cells.length ≤ 64 := by
  rw [h.len]; exact Nat.mul_le_mul h.w8 h.h8
theorem Brd.grid {l : List UInt8} {W H : Nat} {cells : List UInt8} (h : Brd l W H cells) : gW l = W ∧ gH l = H ∧ gCells l = cells := by
  refine ⟨?_, ?_, ?_⟩
  · rw [gW, if_pos h.good, h.size]
  · rw [gH, if_pos h.good, h.size]
  · rw [gCells, if_pos h.good, h.cs]

set_option maxRecDepth 100000 in
set_option maxHeartbeats 1600000 in
theorem boNumbers_any (l : List UInt8) (W H : Nat) (cells : List UInt8) (w : World) (hl : l.length ≤ 1048576) (hB : Brd l W H cells) :
    Calls Tryd.prog 112 #[.string ⟨l.toArray⟩] w fun e w' => ∃ a cap, e = .returned (.slice a cells.length cap) ∧ Owns w' w.heap.size 3 (.slice a cells.length cap) (nats (numsM cells W)) ∧ Below w.heap.size w w' := by
  have hn64 := hB.n64
  have HS := Lib.hid hB.size
  have HC := Lib.hid hB.cs
  have HL := Lib.hid hB.len
  have hsg := hB.sign
  have hw1 := hB.w1
  have hw8 := hB.w8
  have hh8 := hB.h8
  have hT : Hid (numsM cells W = numsGo cells W 0 cells.length) := rfl
  clear hB
  go_enter Tryd.func112, Tryd.ntmps112
  go_wp2_with fail
  refine (boSize_any l _ hl).mono ?_
  rintro e w1 ⟨rfl, hb1⟩
  rw [HS.out]
  go_wp2_with fail
  refine (boCells_any l _ hl).mono ?_
  rintro e w1' ⟨rfl, rfl⟩
  rw [HC.out]
  go_wp2_with fail
  have hI : (w1.iter ⟨cells.toArray⟩ 0).heap[w1.heap.size]? = some (.stringIter ⟨cells.toArray⟩ 0) := World.iter_heap w1 _ _
  have hb2 : Below w1.heap.size w1 (w1.iter ⟨cells.toArray⟩ 0) := (Below.refl _ _).alloc (Nat.le_refl _) _
  have hs2 : w1.heap.size < (w1.iter ⟨cells.toArray⟩ 0).heap.size := by simp [World.iter]
  have hb12 := hb1.trans (hb2.mono hb1.size)
  have hsz := hb1.size
  generalize w1.iter ⟨cells.toArray⟩ 0 = w2 at *
  generalize hII : w1.heap.size = I at *
  have HII := Lib.hid hII
  clear hII hb2
  go_loopw [6] (fun v wr => ∃ k : Nat, k ≤ cells.length ∧ Hid (wr.heap[I]? = some (.stringIter ⟨cells.toArray⟩ k)) ∧ ∃ acc : List Nat, acc.length = k ∧ Owns wr (I + 1) 3 v (nats acc) ∧ Below I w2 wr ∧ Hid (numsM cells W = acc ++ numsGo cells W k (cells.length - k))) (fun _ wr => cells.length - wr.iterPos I)
  case atStart => exact ⟨0, Nat.zero_le _, hI, [], rfl, Owns.nil _ _ _, Below.refl _ _, by rw [Hid, hT.out]; simp⟩
  case round =>
    obtain ⟨k, hk, hIr, acc, hacc, hown, hb, hR⟩ := hrel
    have hIlt := block_lt hIr.out
    have HA := Lib.hid hacc
    have hacc' : acc.length ≤ k := by omega
    clear hacc
    by_cases hlt : k < cells.length
    · have hasc := sign_ascii (hsg _ (List.getElem_mem hlt))
      have hnx := fun ty => Lib.run_next_ascii_at (P := Tryd.prog) wr I ⟨cells.toArray⟩ k ty hIr.out (by simpa [ByteArray.size] using hlt) (by simpa using hasc)
      have hpos := Lib.hid (iterPos_at hIr.out)
      have i1 := iterAt_at hIlt ⟨cells.toArray⟩ (k + 1)
      have i2 := iterAt_below wr I ⟨cells.toArray⟩ (k + 1)
      have i3 := iterAt_size wr I ⟨cells.toArray⟩ (k + 1)
      have i4 := hown.iter I ⟨cells.toArray⟩ (k + 1) (by omega)
      go_wp2_with fail
      clear hnx
      generalize wr.iterAt I ⟨cells.toArray⟩ (k + 1) = wi at *
      refine (boNumber_any W H cells k _ ⟨hw1, hw8⟩ hh8 HL.out hlt).mono ?_
      rintro e w3 ⟨rfl, hb3⟩
      have s3 := hb3.size
      have i5 := Lib.hid ((hb3.block I (by omega)).trans i1)
      clear i1
      go_wp2_with (at_builtin; refine wpList_app1 rfl _ _ _ rfl _ _ _ _ elemInt _ _ _ _ rfl rfl rfl (i4.later hb3) rfl (by simp; omega) (by omega) (by simp; omega) ?_; intro v1 w4 hown1 hb4 hs4)
      rw [nats_snoc] at hown1
      have i6 := (hb4.block I (by omega)).trans i5.out
      have ip := Lib.hid (iterPos_at i6)
      have I6 := Lib.hid i6
      clear i6
      go_roundw
      case rel =>
        first
          | exact ⟨k + 1, by omega, I6, _, by simp [HA.out], hown1, ((hb.trans i2).trans (hb3.mono (by omega))).trans (hb4.mono (by omega)), by rw [Hid, hR.out, show cells.length - k = (cells.length - (k + 1)) + 1 by omega, numsGo]; simp⟩
          | ((repeat apply Exists.intro); exact ⟨⟨k + 1, by omega, I6, _, by simp [HA.out], hown1, ((hb.trans i2).trans (hb3.mono (by omega))).trans (hb4.mono (by omega)), by rw [Hid, hR.out, show cells.length - k = (cells.length - (k + 1)) + 1 by omega, numsGo]; simp⟩, rfl⟩)
      case measure => rw [hpos.out, ip.out]; omega
    · obtain rfl : k = cells.length := by omega
      have hnx := fun ty => Lib.run_next_end_at (P := Tryd.prog) wr I ⟨cells.toArray⟩ cells.length ty hIr.out (by simp [ByteArray.size])
      have hfin : acc = numsM cells W := by rw [hR.out]; simp [numsGo]
      go_wp2_with fail
      go_ret
      rw [hfin] at hown
      obtain ⟨a', cap', hv⟩ := hown.shape
      simp only [nats_length, numsM_length] at hv
      exact ⟨a', cap', by rw [← hv]; rfl, by rw [← hv]; exact hown.mono (by omega), hb12.trans (hb.mono hsz)⟩
end Go.Proofs.YthlbplmghjaeoaaDoor

/- Walks: neighbours, the number of a cell and all numbers, by the model and by the program. -/
namespace Go.Proofs.YthlbplmghjaeoaaDoor
open Go.RowKit

/-- Whether there are a board and a cell. -/
def cellOK (l : List UInt8) (c : Int) : Bool := boGoodM l && inB c 0 ((cellsM l).length - 1)
theorem cellOK_yes {l : List UInt8} {c : Int} (h : cellOK l c = true) : boGoodM l = true ∧ ∃ k : Nat, c = k ∧ k < (cellsM l).length := by
  simp [cellOK, inB] at h
  exact ⟨h.1, c.toNat, by omega, by omega⟩
theorem cells_le72 {l : List UInt8} (h : boGoodM l = true) : (cellsM l).length ≤ 64 := (Brd.of h).n64


theorem cellOK_in (l : List UInt8) (c : Int) : cellOK l c = inC (gCells l).length c := by
  unfold cellOK gCells inC inB
  by_cases h : boGoodM l = true
  · rw [if_pos h, h]
    have e : decide (c ≤ ((cellsM l).length : Int) - 1) = decide (c < ((cellsM l).length : Int)) := by
      apply decide_eq_decide.2; omega
    rw [e]; simp
  · have h' : boGoodM l = false := by simpa using h
    rw [h']
    by_cases q : 0 ≤ c
    · have : ¬ c < 0 := by omega
      simp [this]
    · simp [q]

end Go.Proofs.YthlbplmghjaeoaaDoor
