/- Walks: the model's neighbours of a cell. -/
import Derived.Test.YthlbplmghjaeoaeS4
import Derived.Deep.QuietTactic
import Derived.BigQuiet
import Derived.WalkSmall
import Derived.Outline
namespace Go.Proofs.Ythlbplmghjaeoae
open Go.RowKit

/-- Whether the model takes the place (a, b) beside (x, y). -/
def takes (W H x y a b : Int) : Bool := inB a 0 (W - 1) && inB b 0 (H - 1) && (a != x || b != y)
def innerGo (W H x y b : Int) : Nat → Int → List Int
  | 0, _ => []
  | m + 1, a => if takes W H x y a b = true then (b * W + a) :: innerGo W H x y b m (a + 1) else innerGo W H x y b m (a + 1)
def outerGo (W H x y : Int) : Nat → Int → List Int
  | 0, _ => []
  | m + 1, b => innerGo W H x y b 3 (x - 1) ++ outerGo W H x y m (b + 1)
def boNearM (W H c : Nat) : List Int := outerGo W H (c % W : Nat) (c / W : Nat) 3 ((c / W : Nat) - 1)
theorem innerGo_le (W H x y b : Int) : ∀ (m : Nat) (a : Int), (innerGo W H x y b m a).length ≤ m
  | 0, _ => by simp [innerGo]
  | m + 1, a => by
    have := innerGo_le W H x y b m (a + 1)
    unfold innerGo; split <;> simp <;> omega
theorem outerGo_le (W H x y : Int) : ∀ (m : Nat) (b : Int), (outerGo W H x y m b).length ≤ 3 * m
  | 0, _ => by simp [outerGo]
  | m + 1, b => by
    have := outerGo_le W H x y m (b + 1)
    have := innerGo_le W H x y b 3 (x - 1)
    unfold outerGo; simp; omega
theorem boNearM_le (W H c : Nat) : (boNearM W H c).length ≤ 9 := outerGo_le _ _ _ _ 3 _

theorem wrapIdx (b W a : Int) (hb : -100 ≤ b ∧ b ≤ 100) (hW : 0 ≤ W ∧ W ≤ 8) (ha : -100 ≤ a ∧ a ≤ 100) : wrap64 (wrap64 (b * W) + a) = b * W + a := by
  have hw : W = 0 ∨ W = 1 ∨ W = 2 ∨ W = 3 ∨ W = 4 ∨ W = 5 ∨ W = 6 ∨ W = 7 ∨ W = 8 := by omega
  have h1 : -800 ≤ b * W ∧ b * W ≤ 800 := by
    rcases hw with rfl | rfl | rfl | rfl | rfl | rfl | rfl | rfl | rfl <;> omega
  rw [IntWalk.wrap64_in (b * W) ⟨by omega, by omega⟩, IntWalk.wrap64_in _ ⟨by omega, by omega⟩]

set_option maxRecDepth 100000 in
set_option maxHeartbeats 3200000 in
theorem boNear_any (W H c : Nat) (w : World) (hW : 1 ≤ W ∧ W ≤ 8) (hH : H ≤ 8) (hc : c < 64) :
    Calls Try.prog 35 #[.int .i64 W, .int .i64 H, .int .i64 c] w fun e w' => ∃ a cap, e = .returned (.slice a (boNearM W H c).length cap) ∧ Owns w' w.heap.size 3 (.slice a (boNearM W H c).length cap) (ints (boNearM W H c)) ∧ Below w.heap.size w w' := by
  obtain ⟨hW1, hW8⟩ := hW
  have hM : Hid (boNearM W H c = outerGo W H (c % W : Nat) (c / W : Nat) 3 ((c / W : Nat) - 1)) := rfl
  have hx : c % W < W := Nat.mod_lt _ (by omega)
  have hy : c / W ≤ c := Nat.div_le_self _ _
  obtain ⟨x, hxe⟩ : ∃ x, c % W = x := ⟨_, rfl⟩
  obtain ⟨y, hye⟩ : ∃ y, c / W = y := ⟨_, rfl⟩
  rw [hxe, hye] at hM
  rw [hxe] at hx
  rw [hye] at hy
  have ex : (c : Int) % (W : Int) = (x : Int) := by rw [← hxe]; simp
  have ey : wrap64 ((c : Int) / (W : Int)) = (y : Int) := by
    rw [IntWalk.wrap64_in _ ⟨by have : (0 : Int) ≤ (c : Int) / (W : Int) := Int.ediv_nonneg (by omega) (by omega); omega, by
      have : ((c : Int) / (W : Int)) = ((c / W : Nat) : Int) := by simp
      rw [this, hye]; omega⟩, ← hye]; simp
  clear hxe hye
  go_enter Try.func35, Try.ntmps35
  go_wp2_with fail
  go_quiet (fail)
  simp only [ex, ey]
  go_wp2_with fail
  clear ex ey
  have hnq : Below w.heap.size w (w.drewN nq) := below_drewN (Below.refl _ _) _
  generalize w.drewN nq = w0 at *
  go_loopw [9, 10] (fun v b wr => ∃ j : Nat, j ≤ 3 ∧ b = .int .i64 ((y : Int) - 1 + j) ∧ ∃ acc : List Int, acc.length ≤ 3 * j ∧ Owns wr w.heap.size 3 v (ints acc) ∧ Below w.heap.size w wr ∧ Hid (boNearM W H c = acc ++ outerGo W H x y (3 - j) ((y : Int) - 1 + j))) (fun _ b _ => ((y : Int) + 2 - intOf b).toNat)
  case atStart => exact ⟨0, by omega, by simp, [], by simp, Owns.nil _ _ _, hnq, by rw [Hid, hM.out]; simp⟩
  case round =>
    obtain ⟨j, hj, rfl, acc, hacc, hown, hb, hR⟩ := hrel
    by_cases hlt : j < 3
    · have ht : decide ((y : Int) - 1 + (j : Int) ≤ (y : Int) + 1) = true := by simp; omega
      go_wp2_with fail
      go_loopw [9, 11] (fun v a wr => ∃ i : Nat, i ≤ 3 ∧ a = .int .i64 ((x : Int) - 1 + i) ∧ ∃ acc : List Int, acc.length ≤ 3 * j + i ∧ Owns wr w.heap.size 3 v (ints acc) ∧ Below w.heap.size w wr ∧ Hid (boNearM W H c = acc ++ (innerGo W H x y ((y : Int) - 1 + j) (3 - i) ((x : Int) - 1 + i) ++ outerGo W H x y (3 - (j + 1)) ((y : Int) - 1 + j + 1)))) (fun _ a _ => ((x : Int) + 2 - intOf a).toNat)
      case atStart =>
        refine ⟨0, by omega, by simp, acc, by omega, hown, hb, ?_⟩
        rw [Hid, hR.out, show 3 - j = (3 - (j + 1)) + 1 by omega, outerGo]
        simp
      case round =>
        clear hown hb hR hacc acc
        obtain ⟨i, hi, rfl, acc, hacc, hown, hb, hR⟩ := hrel
        by_cases hlti : i < 3
        · by_cases h1 : 0 ≤ (x : Int) - 1 + i ∧ (x : Int) - 1 + i ≤ (W : Int) - 1
          · have d1 : inB ((x : Int) - 1 + i) 0 ((W : Int) - 1) = true := by simp [inB]; omega
            have D1 := Lib.hid d1
            clear h1
            by_cases h2 : 0 ≤ (y : Int) - 1 + j ∧ (y : Int) - 1 + j ≤ (H : Int) - 1
            · have d2 : inB ((y : Int) - 1 + j) 0 ((H : Int) - 1) = true := by simp [inB]; omega
              have D2 := Lib.hid d2
              clear h2
              by_cases h3 : i = 1
              · have e3 : ((x : Int) - 1 + (i : Int)) = (x : Int) := by omega
                by_cases h4 : j = 1
                · have e4 : ((y : Int) - 1 + (j : Int)) = (y : Int) := by omega
                  have E3 := Lib.hid e3
                  have E4 := Lib.hid e4
                  have H3 := Lib.hid h3
                  have H4 := Lib.hid h4
                  have d3 : ((x : Int) - 1 + (i : Int) != (x : Int)) = false := by simp; omega
                  have d4 : ((y : Int) - 1 + (j : Int) != (y : Int)) = false := by simp; omega
                  have D3 := Lib.hid d3
                  have D4 := Lib.hid d4
                  clear e3 e4 h3 h4
                  go_wp2_with (go_at_call 34; refine (l1In_any _ _ _ _).mono ?_; rintro e w' ⟨rfl, rfl⟩)
                  go_roundw
                  case rel =>
                    first
                      | exact ⟨i + 1, by omega, by go_num, acc, by omega, hown, hb, by rw [Hid, hR.out, show 3 - i = (3 - (i + 1)) + 1 by omega, innerGo, if_neg (by rw [takes, D1.out, D2.out, D3.out, D4.out]; simp), Int.natCast_add i, Int.natCast_one, Int.add_assoc]⟩
                      | ((repeat apply Exists.intro); exact ⟨⟨i + 1, by omega, by go_num, acc, by omega, hown, hb, by rw [Hid, hR.out, show 3 - i = (3 - (i + 1)) + 1 by omega, innerGo, if_neg (by rw [takes, D1.out, D2.out, D3.out, D4.out]; simp), Int.natCast_add i, Int.natCast_one, Int.add_assoc]⟩, rfl⟩)
                  case measure => simp [intOf]; omega
                · have H3 := Lib.hid h3
                  have d3 : ((x : Int) - 1 + (i : Int) != (x : Int)) = false := by simp; omega
                  have d4 : ((y : Int) - 1 + (j : Int) != (y : Int)) = true := by rw [bne_iff_ne]; omega
                  have D3 := Lib.hid d3
                  have D4 := Lib.hid d4
                  clear e3 h3
                  go_wp2_with (first | (go_at_call 34; refine (l1In_any _ _ _ _).mono ?_; rintro e w' ⟨rfl, rfl⟩) | (at_builtin; refine wpList_app1 rfl _ _ _ rfl _ _ _ _ elemInt _ _ _ _ rfl rfl rfl hown rfl (by simp; omega) hb.size (by simp; omega) ?_; intro v1 w1 hown1 hb1 hs1))
                  rw [ints_snoc, wrapIdx ((y : Int) - 1 + j) _ ((x : Int) - 1 + i) (by omega) (by omega) (by omega)] at hown1
                  go_roundw
                  case rel =>
                    first
                      | exact ⟨(i + 1), by omega, by first | go_num | (congr 1; omega), _, by simp; omega, hown1, hb.trans hb1, by rw [Hid, hR.out, show 3 - i = (3 - (i + 1)) + 1 by omega, innerGo, if_pos (by rw [takes, D1.out, D2.out, D3.out, D4.out]; simp), Int.natCast_add i, Int.natCast_one, Int.add_assoc]; simp⟩
                      | ((repeat apply Exists.intro); exact ⟨⟨(i + 1), by omega, by first | go_num | (congr 1; omega), _, by simp; omega, hown1, hb.trans hb1, by rw [Hid, hR.out, show 3 - i = (3 - (i + 1)) + 1 by omega, innerGo, if_pos (by rw [takes, D1.out, D2.out, D3.out, D4.out]; simp), Int.natCast_add i, Int.natCast_one, Int.add_assoc]; simp⟩, rfl⟩)
                  case measure => simp [intOf]; omega
              · have d3 : ((x : Int) - 1 + (i : Int) != (x : Int)) = true := by rw [bne_iff_ne]; omega
                have D3 := Lib.hid d3
                go_wp2_with (first | (go_at_call 34; refine (l1In_any _ _ _ _).mono ?_; rintro e w' ⟨rfl, rfl⟩) | (at_builtin; refine wpList_app1 rfl _ _ _ rfl _ _ _ _ elemInt _ _ _ _ rfl rfl rfl hown rfl (by simp; omega) hb.size (by simp; omega) ?_; intro v1 w1 hown1 hb1 hs1))
                rw [ints_snoc, wrapIdx ((y : Int) - 1 + j) _ ((x : Int) - 1 + i) (by omega) (by omega) (by omega)] at hown1
                go_roundw
                case rel =>
                  first
                    | exact ⟨(i + 1), by omega, by first | go_num | (congr 1; omega), _, by simp; omega, hown1, hb.trans hb1, by rw [Hid, hR.out, show 3 - i = (3 - (i + 1)) + 1 by omega, innerGo, if_pos (by rw [takes, D1.out, D2.out, D3.out]; simp), Int.natCast_add i, Int.natCast_one, Int.add_assoc]; simp⟩
                    | ((repeat apply Exists.intro); exact ⟨⟨(i + 1), by omega, by first | go_num | (congr 1; omega), _, by simp; omega, hown1, hb.trans hb1, by rw [Hid, hR.out, show 3 - i = (3 - (i + 1)) + 1 by omega, innerGo, if_pos (by rw [takes, D1.out, D2.out, D3.out]; simp), Int.natCast_add i, Int.natCast_one, Int.add_assoc]; simp⟩, rfl⟩)
                case measure => simp [intOf]; omega
            · have d2 : inB ((y : Int) - 1 + j) 0 ((H : Int) - 1) = false := by simp [inB]; omega
              have D2 := Lib.hid d2
              clear h2
              go_wp2_with (go_at_call 34; refine (l1In_any _ _ _ _).mono ?_; rintro e w' ⟨rfl, rfl⟩)
              go_roundw
              case rel =>
                first
                  | exact ⟨i + 1, by omega, by go_num, acc, by omega, hown, hb, by rw [Hid, hR.out, show 3 - i = (3 - (i + 1)) + 1 by omega, innerGo, if_neg (by rw [takes, D2.out]; simp), Int.natCast_add, Int.natCast_one, Int.add_assoc]⟩
                  | ((repeat apply Exists.intro); exact ⟨⟨i + 1, by omega, by go_num, acc, by omega, hown, hb, by rw [Hid, hR.out, show 3 - i = (3 - (i + 1)) + 1 by omega, innerGo, if_neg (by rw [takes, D2.out]; simp), Int.natCast_add, Int.natCast_one, Int.add_assoc]⟩, rfl⟩)
              case measure => simp [intOf]; omega
          · have d1 : inB ((x : Int) - 1 + i) 0 ((W : Int) - 1) = false := by simp [inB]; omega
            have D1 := Lib.hid d1
            clear h1
            go_wp2_with (go_at_call 34; refine (l1In_any _ _ _ _).mono ?_; rintro e w' ⟨rfl, rfl⟩)
            go_roundw
            case rel =>
              first
                | exact ⟨i + 1, by omega, by go_num, acc, by omega, hown, hb, by rw [Hid, hR.out, show 3 - i = (3 - (i + 1)) + 1 by omega, innerGo, if_neg (by rw [takes, D1.out]; simp), Int.natCast_add, Int.natCast_one, Int.add_assoc]⟩
                | ((repeat apply Exists.intro); exact ⟨⟨i + 1, by omega, by go_num, acc, by omega, hown, hb, by rw [Hid, hR.out, show 3 - i = (3 - (i + 1)) + 1 by omega, innerGo, if_neg (by rw [takes, D1.out]; simp), Int.natCast_add, Int.natCast_one, Int.add_assoc]⟩, rfl⟩)
            case measure => simp [intOf]; omega
        · obtain rfl : i = 3 := by omega
          go_wp2_with fail
          go_roundw
          case rel =>
            first
              | exact ⟨j + 1, by omega, by go_num, acc, by omega, hown, hb, by rw [Hid, hR.out]; simp [innerGo]; congr 1; omega⟩
              | ((repeat apply Exists.intro); exact ⟨⟨j + 1, by omega, by go_num, acc, by omega, hown, hb, by rw [Hid, hR.out]; simp [innerGo]; congr 1; omega⟩, rfl⟩)
          case measure => simp [intOf]; omega
    · obtain rfl : j = 3 := by omega
      go_wp2_with fail
      go_ret
      have hfin : acc = boNearM W H c := by rw [hR.out]; simp [outerGo]
      rw [hfin] at hown
      obtain ⟨a', cap', hv⟩ := hown.shape
      simp only [ints_length] at hv
      exact ⟨a', cap', by rw [← hv]; rfl, by rw [← hv]; exact hown, hb⟩
end Go.Proofs.Ythlbplmghjaeoae
