/- Joined boards by the model: neighbours around. -/
import Derived.Test.YtggjponlgndghaaDoorO1
import Derived.Test.YtggjponlgndghaaDoorGY8
import Derived.Outline
namespace Go.Proofs.YtggjponlgndghaaDoor
open Go.RowKit

/-- The k-th of the nine cells around, and those but the cell itself, increasing. -/
def joP (W H c k : Nat) : Nat := ((c / W + H + k / 3 - 1) % H) * W + (c % W + W + k % 3 - 1) % W
def joK (W H c : Nat) : Nat → List Nat
  | 0 => []
  | k + 1 => if k = 4 then joK W H c k else putM (joK W H c k) (joP W H c k)
theorem putM_le' : ∀ (xs : List Nat) (x : Nat), (putM xs x).length ≤ xs.length + 1
  | [], x => by simp [putM]
  | y :: r, x => by
    have := putM_le' r x
    unfold putM
    split
    · simp; omega
    · split <;> simp
theorem joK_le (W H c : Nat) : ∀ k, (joK W H c k).length ≤ k
  | 0 => Nat.le_refl _
  | k + 1 => by
    have ih := joK_le W H c k
    have hp := putM_le' (joK W H c k) (joP W H c k)
    rw [joK]
    split <;> omega
def joN (W H c : Nat) : List Nat := joK W H c 9
theorem joP_int (W H c i j : Nat) (hW : 0 < W) (hH : 0 < H) (hj : j < 3) : (((c / W : Nat) : Int) - 1 + (i : Int)) % (H : Int) * (W : Int) + (((c % W : Nat) : Int) - 1 + (j : Int)) % (W : Int) = ((joP W H c (3 * i + j) : Nat) : Int) := by
  unfold joP
  have e1 : (3 * i + j) / 3 = i := by omega
  have e2 : (3 * i + j) % 3 = j := by omega
  rw [e1, e2]
  have f : ∀ (y m t : Nat), 0 < m → (((y : Nat) : Int) - 1 + (t : Int)) % (m : Int) = (((y + m + t - 1) % m : Nat) : Int) := fun y m t hm => by
    rw [Int.natCast_emod, show ((y + m + t - 1 : Nat) : Int) = ((y : Int) - 1 + (t : Int)) + (m : Int) by omega, Int.add_emod_right]
  rw [f _ H i hH, f _ W j hW]
  simp
set_option maxRecDepth 100000 in
set_option maxHeartbeats 400000 in
theorem joNear_any (W H c : Nat) (hW : 1 ≤ W ∧ W ≤ 8) (hH : 1 ≤ H ∧ H ≤ 8) (hc : c < W * H) (w : World) :
    Calls Tryd.prog 37 #[.int .i64 W, .int .i64 H, .int .i64 c] w fun e w' => ∃ v, e = .returned v ∧ Owns w' w.heap.size 3 v (nats (joN W H c)) ∧ Below w.heap.size w w' := by
  have h64 : c < 64 := Nat.lt_of_lt_of_le hc (Nat.mul_le_mul hW.2 hH.2)
  have hWz : ¬ (W : Int) = 0 := by omega
  have t1 : (c : Int).tmod (W : Int) = ((c % W : Nat) : Int) := by rw [Int.ofNat_tmod]
  have t2 : (c : Int).tdiv (W : Int) = ((c / W : Nat) : Int) := by rw [Int.ofNat_tdiv]
  have hx : c % W < W := Nat.mod_lt _ (by omega)
  have hy : c / W < 64 := Nat.lt_of_le_of_lt (Nat.div_le_self _ _) h64
  have HJ := Lib.hid (fun i j hj => joP_int W H c i j (by omega) (by omega) hj)
  have HL := Lib.hid (joK_le W H c)
  have HK : Hid (∀ k, joK W H c (k + 1) = if k = 4 then joK W H c k else putM (joK W H c k) (joP W H c k)) := fun _ => rfl
  generalize c / W = y at *
  generalize c % W = x at *
  have z : ((W : Int) == 0) = false := by simp; omega
  have r3 : IntKind.i64.wrap ((c : Int).tdiv (W : Int)) = (y : Int) := by rw [t2]; exact IntWalk.i64_in _ ⟨by omega, by omega⟩
  have r4 : IntKind.i64.wrap ((c : Int).tmod (W : Int)) = (x : Int) := by rw [t1]; exact IntWalk.i64_in _ ⟨by omega, by omega⟩
  go_enter Tryd.func37, Tryd.ntmps37
  go_upto_region 1 with fail
  go_quiet (fail)
  generalize hwd : w.drewN _ = w1
  have hb1 : Below w.heap.size w w1 := by rw [← hwd]; exact below_drewN (Below.refl _ _) _
  clear hwd t1 t2 r3 r4 z
  go_wp2_with fail
  go_loopw [9, 10] (fun v b wr => ∃ i : Nat, i ≤ 3 ∧ b = .int .i64 ((y : Int) - 1 + (i : Int)) ∧ Owns wr w.heap.size 3 v (nats (joK W H c (3 * i))) ∧ Below w.heap.size w wr) (fun _ b _ => ((y : Int) + 2 - intOf b).toNat)
  case atStart => exact ⟨0, by omega, by simp, Owns.nil _ _ _, hb1⟩
  case round =>
    obtain ⟨i, hi, rfl, hown, hb⟩ := hrel
    by_cases hlt : i < 3
    · have hle : (y : Int) - 1 + (i : Int) ≤ (y : Int) + 1 := by omega
      go_wp2_with fail
      go_loopw [9, 11] (fun v a wr => ∃ j : Nat, j ≤ 3 ∧ a = .int .i64 ((x : Int) - 1 + (j : Int)) ∧ Owns wr w.heap.size 3 v (nats (joK W H c (3 * i + j))) ∧ Below w.heap.size w wr) (fun _ a _ => ((x : Int) + 2 - intOf a).toNat)
      case atStart => exact ⟨0, by omega, by simp, hown, hb⟩
      case round =>
        clear hown hb
        obtain ⟨j, hj, rfl, hown, hb⟩ := hrel
        by_cases hjl : j < 3
        · have hle2 : (x : Int) - 1 + (j : Int) ≤ (x : Int) + 1 := by omega
          have hJ := HJ.out i j hjl
          have hkl : (joK W H c (3 * i + j)).length ≤ 1048576 := Nat.le_trans (HL.out _) (by omega)
          by_cases hc1 : j = 1 ∧ i = 1
          · obtain ⟨rfl, rfl⟩ := hc1
            clear hJ
            go_wp2_with fail
            go_roundw
            case rel => exact ⟨2, by omega, by go_num, by rw [show 3 * 1 + 2 = 4 + 1 by omega, HK.out, if_pos rfl]; exact hown, hb⟩
            case measure => simp [intOf]; omega
          · by_cases hc2 : j = 1
            · have hne : ¬ ((y : Int) - 1 + (i : Int) = (y : Int)) := by omega
              subst hc2
              rw [show (x : Int) - 1 + ((1 : Nat) : Int) = (x : Int) by omega] at hJ ⊢
              go_wp2_with fail
              refine (joMod_any _ _ _ (by omega) (by omega)).mono ?_
              rintro e w4 ⟨rfl, rfl⟩
              have hu0 := Int.emod_nonneg ((y : Int) - 1 + (i : Int)) (show (H : Int) ≠ 0 by omega)
              have hu1 := Int.emod_lt_of_pos ((y : Int) - 1 + (i : Int)) (show (0 : Int) < (H : Int) by omega)
              generalize ((y : Int) - 1 + (i : Int)) % (H : Int) = U at *
              have hm0 : 0 ≤ U * (W : Int) := Int.mul_nonneg hu0 (by omega)
              have hm1 : U * (W : Int) ≤ 8 * 8 := Int.mul_le_mul (by omega) (by omega) (by omega) (by omega)
              go_wp2_with fail
              refine (joMod_any _ _ _ (by omega) (by omega)).mono ?_
              rintro e w4 ⟨rfl, rfl⟩
              have hv0 := Int.emod_nonneg ((x : Int)) (show (W : Int) ≠ 0 by omega)
              have hv1 := Int.emod_lt_of_pos ((x : Int)) (show (0 : Int) < (W : Int) by omega)
              generalize ((x : Int)) % (W : Int) = V at *
              generalize hpp : joP W H c (3 * i + 1) = pp at *
              have HPP := Lib.hid hpp
              clear hpp
              have HJJ := Lib.hid hJ
              clear hJ
              go_wp2_with fail
              rw [HJJ.out]
              refine (l1Put_any _ pp _ w.heap.size _ hown (by omega) hb.size).mono ?_
              rintro e w5 ⟨v5, rfl, hown5, hb5, _⟩
              go_wp2_with fail
              go_roundw
              case rel => exact ⟨1 + 1, by omega, by go_num, by rw [show 3 * i + (1 + 1) = 3 * i + 1 + 1 by omega, HK.out, if_neg (by omega), HPP.out]; exact hown5, hb.trans (hb5.mono hb.size)⟩
              case measure => simp [intOf]; omega
            · have hne : ¬ ((x : Int) - 1 + (j : Int) = (x : Int)) := by omega
              go_wp2_with fail
              refine (joMod_any _ _ _ (by omega) (by omega)).mono ?_
              rintro e w4 ⟨rfl, rfl⟩
              have hu0 := Int.emod_nonneg ((y : Int) - 1 + (i : Int)) (show (H : Int) ≠ 0 by omega)
              have hu1 := Int.emod_lt_of_pos ((y : Int) - 1 + (i : Int)) (show (0 : Int) < (H : Int) by omega)
              generalize ((y : Int) - 1 + (i : Int)) % (H : Int) = U at *
              have hm0 : 0 ≤ U * (W : Int) := Int.mul_nonneg hu0 (by omega)
              have hm1 : U * (W : Int) ≤ 8 * 8 := Int.mul_le_mul (by omega) (by omega) (by omega) (by omega)
              go_wp2_with fail
              refine (joMod_any _ _ _ (by omega) (by omega)).mono ?_
              rintro e w4 ⟨rfl, rfl⟩
              have hv0 := Int.emod_nonneg ((x : Int) - 1 + (j : Int)) (show (W : Int) ≠ 0 by omega)
              have hv1 := Int.emod_lt_of_pos ((x : Int) - 1 + (j : Int)) (show (0 : Int) < (W : Int) by omega)
              generalize ((x : Int) - 1 + (j : Int)) % (W : Int) = V at *
              generalize hpp : joP W H c (3 * i + j) = pp at *
              have HPP := Lib.hid hpp
              clear hpp
              have HJJ := Lib.hid hJ
              clear hJ
              go_wp2_with fail
              rw [HJJ.out]
              refine (l1Put_any _ pp _ w.heap.size _ hown (by omega) hb.size).mono ?_
              rintro e w5 ⟨v5, rfl, hown5, hb5, _⟩
              go_wp2_with fail
              go_roundw
              case rel => exact ⟨j + 1, by omega, by go_num, by rw [show 3 * i + (j + 1) = 3 * i + j + 1 by omega, HK.out, if_neg (by omega), HPP.out]; exact hown5, hb.trans (hb5.mono hb.size)⟩
              case measure => simp [intOf]; omega
        · obtain rfl : j = 3 := by omega
          go_wp2_with fail
          go_roundw
          case rel => exact ⟨i + 1, by omega, by go_num, by rw [show 3 * (i + 1) = 3 * i + 3 by omega]; exact hown, hb⟩
          case measure => simp [intOf]; omega
    · obtain rfl : i = 3 := by omega
      go_wp2_with fail
      go_ret
      exact ⟨_, rfl, hown, hb⟩
end Go.Proofs.YtggjponlgndghaaDoor
