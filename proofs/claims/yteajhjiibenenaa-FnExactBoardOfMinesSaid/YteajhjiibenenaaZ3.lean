/- The board of a size and of mines: by the program and by the model, in any case. -/
import Derived.Test.YteajhjiibenenaaZ2
import Derived.Outline
namespace Go.Proofs.Yteajhjiibenenaa
open Go.RowKit

theorem inB_nat {x : Int} (h : inB x 1 8 = true) : ∃ n : Nat, x = n ∧ 1 ≤ n ∧ n ≤ 8 := by
  simp only [inB, Bool.and_eq_true, decide_eq_true_eq] at h
  exact ⟨x.toNat, by omega, by omega, by omega⟩
theorem inB_of {n : Nat} (h : 1 ≤ n ∧ n ≤ 8) : inB (n : Int) 1 8 = true := by simp [inB]; omega

set_option maxRecDepth 100000 in
set_option maxHeartbeats 1600000 in
theorem iBoM_rnot (W H : Nat) (xs : List Int) (am : Option Addr) (cm : Nat) (w : World) (hat : At w am (ints xs)) (hl : xs.length ≤ 1048576) (hW : 1 ≤ W ∧ W ≤ 8) (hH : 1 ≤ H ∧ H ≤ 8) (hr : risesM ((W * H : Nat) : Int) (-1) xs = false) :
    Calls Try.prog 22 #[.int .i64 W, .int .i64 H, .slice am xs.length cm] w fun e w' => e = .returned (.tuple #[.string ⟨(bmM W H xs).toArray⟩, .bool (bmOK W H xs)]) ∧ Below w.heap.size w w' := by
  have hok := bm_nat W H xs hW hH
  rw [hr] at hok
  have HOK := Lib.hid hok
  have HM := Lib.hid (bm_no hok)
  have h64 : W * H ≤ 64 := Nat.mul_le_mul hW.2 hH.2
  have hsz := isSize_any W H
  rw [show sizeOK W H = true by simp [sizeOK]; omega] at hsz
  have har := fun w h => areInc_any xs ((W * H : Nat) : Int) am cm w h hl
  rw [hr] at har
  have e1 : ((W : Int) * (H : Int)) = ((W * H : Nat) : Int) := by simp
  have m1 : wrap64 ((W : Int) * (H : Int)) = ((W * H : Nat) : Int) := by rw [e1, IntWalk.wrap64_in _ ⟨by omega, by omega⟩]
  obtain ⟨n, hn⟩ : ∃ n, W * H = n := ⟨_, rfl⟩
  rw [hn] at h64 har m1
  clear hok hr e1 hn
  go_enter Try.func22, Try.ntmps22
  go_wp2_with fail
  refine (hsz _).mono ?_
  rintro e w' ⟨rfl, rfl⟩
  go_wp2_with fail
  rw [m1]
  refine (har _ hat).mono ?_
  rintro e w' ⟨rfl, rfl⟩
  go_wp2_with fail
  go_ret2
  exact ⟨by rw [HM.out, HOK.out]; rfl, Below.refl _ _⟩

set_option maxRecDepth 100000 in
set_option maxHeartbeats 1600000 in
theorem iBoM_any (x y : Int) (xs : List Int) (am : Option Addr) (cm : Nat) (w : World) (hat : At w am (ints xs)) (hl : xs.length ≤ 1048576) :
    Calls Try.prog 22 #[.int .i64 x, .int .i64 y, .slice am xs.length cm] w fun e w' => e = .returned (.tuple #[.string ⟨(bmM x y xs).toArray⟩, .bool (bmOK x y xs)]) ∧ Below w.heap.size w w' := by
  by_cases hs : (inB x 1 8 && inB y 1 8) = true
  · rw [Bool.and_eq_true] at hs
    obtain ⟨W, rfl, hW⟩ := inB_nat hs.1
    obtain ⟨H, rfl, hH⟩ := inB_nat hs.2
    cases hr : risesM ((W * H : Nat) : Int) (-1) xs with
    | true => exact iBoM_yes W H xs am cm w hat hl hW hH hr
    | false => exact iBoM_rnot W H xs am cm w hat hl hW hH hr
  · have hs' : (inB x 1 8 && inB y 1 8) = false := by simpa using hs
    have hsz := fun w => isSizeI_no x y w hs'
    have hok := bm_size xs hs'
    have HOK := Lib.hid hok
    have HM := Lib.hid (bm_no hok)
    clear hs hs' hok
    go_enter Try.func22, Try.ntmps22
    go_wp2_with fail
    refine (hsz _).mono ?_
    rintro e w' ⟨rfl, rfl⟩
    go_wp2_with fail
    go_ret2
    exact ⟨by rw [HM.out, HOK.out]; rfl, Below.refl _ _⟩

set_option maxRecDepth 100000 in
set_option maxHeartbeats 1600000 in
theorem sBoM_size (W H : Nat) (xs : List Int) (am : Option Addr) (cm : Nat) (w : World) (hat : At w am (ints xs)) (hl : xs.length ≤ 1048576) (hW : 1 ≤ W ∧ W ≤ 8) (hH : 1 ≤ H ∧ H ≤ 8) :
    Calls Try.prog 20 #[.int .i64 W, .int .i64 H, .slice am xs.length cm] w fun e w' => e = .returned (.tuple #[.string ⟨(bmM W H xs).toArray⟩, .bool (bmOK W H xs)]) ∧ Below w.heap.size w w' := by
  have hok := bm_nat W H xs hW hH
  have h64 : W * H ≤ 64 := Nat.mul_le_mul hW.2 hH.2
  have hpos : 1 ≤ W * H := Nat.mul_le_mul hW.1 hH.1
  have d1 := inB_of hW
  have d2 := inB_of hH
  have hbt := brGo_text W H hW.1 (ofGo xs 0 (W * H)) (by simp)
  have hrs := fun w h => l1Rising_any xs ((W * H : Nat) : Int) (((W * H : Nat) : Int) - 1) (by omega) am cm w h hl
  have hbo := fun w h => boOf_any xs (W * H) am cm w h hl (by omega)
  have hro := fun w => boRows_any (ofGo xs 0 (W * H)) W w (by simpa using h64) hW.1 (by omega)
  have e1 : ((W : Int) * (H : Int)) = ((W * H : Nat) : Int) := by simp
  have m1 : wrap64 ((W : Int) * (H : Int)) = ((W * H : Nat) : Int) := by rw [e1, IntWalk.wrap64_in _ ⟨by omega, by omega⟩]
  cases hr : risesM ((W * H : Nat) : Int) (-1) xs with
  | false =>
    rw [hr] at hok hrs
    have HOK := Lib.hid hok
    have HM := Lib.hid (bm_no hok)
    obtain ⟨n, hn⟩ : ∃ n, W * H = n := ⟨_, rfl⟩
    rw [hn] at h64 hrs m1 hpos
    clear hok hr e1 hn hbo hro hbt
    go_enter Try.func20, Try.ntmps20
    go_wp2_with (go_at_call 39; refine (l1In_any _ _ _ _).mono ?_; rintro e w' ⟨rfl, rfl⟩)
    refine (hrs _ hat).mono ?_
    rintro e w' ⟨rfl, rfl⟩
    go_wp2_with fail
    go_ret2
    exact ⟨by rw [HM.out, HOK.out]; rfl, Below.refl _ _⟩
  | true =>
    rw [hr] at hok hrs
    have HOK := Lib.hid hok
    have HM := Lib.hid (bm_yes W H xs hok)
    have HBT := Lib.hid hbt
    obtain ⟨n, hn⟩ : ∃ n, W * H = n := ⟨_, rfl⟩
    rw [hn] at h64 hrs m1 hpos hbo hro HBT HM
    clear hok hr e1 hn hbt
    go_enter Try.func20, Try.ntmps20
    go_wp2_with (go_at_call 39; refine (l1In_any _ _ _ _).mono ?_; rintro e w' ⟨rfl, rfl⟩)
    refine (hrs _ hat).mono ?_
    rintro e w' ⟨rfl, rfl⟩
    go_wp2_with fail
    refine (hbo _ hat).mono ?_
    rintro e w' ⟨rfl, rfl⟩
    go_wp2_with fail
    refine (hro _).mono ?_
    rintro e w' ⟨rfl, rfl⟩
    go_wp2_with fail
    go_ret2
    exact ⟨by rw [HM.out, HOK.out, ← HBT.out]; rfl, Below.refl _ _⟩

set_option maxRecDepth 100000 in
set_option maxHeartbeats 1600000 in
theorem sBoM_any (x y : Int) (xs : List Int) (am : Option Addr) (cm : Nat) (w : World) (hat : At w am (ints xs)) (hl : xs.length ≤ 1048576) :
    Calls Try.prog 20 #[.int .i64 x, .int .i64 y, .slice am xs.length cm] w fun e w' => e = .returned (.tuple #[.string ⟨(bmM x y xs).toArray⟩, .bool (bmOK x y xs)]) ∧ Below w.heap.size w w' := by
  cases h1 : inB x 1 8 with
  | false =>
    have hok := bm_size (w := x) (h := y) xs (by rw [h1]; rfl)
    have HOK := Lib.hid hok
    have HM := Lib.hid (bm_no hok)
    clear hok
    go_enter Try.func20, Try.ntmps20
    go_wp2_with (go_at_call 39; refine (l1In_any _ _ _ _).mono ?_; rintro e w' ⟨rfl, rfl⟩)
    go_ret2
    exact ⟨by rw [HM.out, HOK.out]; rfl, Below.refl _ _⟩
  | true =>
    cases h2 : inB y 1 8 with
    | false =>
      have hok := bm_size (w := x) (h := y) xs (by rw [h1, h2]; rfl)
      have HOK := Lib.hid hok
      have HM := Lib.hid (bm_no hok)
      clear hok
      go_enter Try.func20, Try.ntmps20
      go_wp2_with (go_at_call 39; refine (l1In_any _ _ _ _).mono ?_; rintro e w' ⟨rfl, rfl⟩)
      go_ret2
      exact ⟨by rw [HM.out, HOK.out]; rfl, Below.refl _ _⟩
    | true =>
      obtain ⟨W, rfl, hW⟩ := inB_nat h1
      obtain ⟨H, rfl, hH⟩ := inB_nat h2
      exact sBoM_size W H xs am cm w hat hl hW hH
end Go.Proofs.Yteajhjiibenenaa
