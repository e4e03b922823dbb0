/- Counts by the program: sizes, pairs of cells, lowest terms. -/
import Derived.Test.YthlbplmghjaeoaeGJC
import Derived.Test.YthlbplmghjaeoaeJG
import Derived.Test.YthlbplmghjaeoaeZ2
import Derived.Test.YthlbplmghjaeoaeU1
import Derived.Test.YthlbplmghjaeoaeGN1
import Derived.Deep.RegionHeld3
import Derived.IntWalk
import Derived.Deep.QuietTactic
import Derived.Outline
namespace Go.Proofs.Ythlbplmghjaeoae
open Go.RowKit

theorem isSizeB_any (x y : Int) (w : World) :
    Calls Try.prog 58 #[.int .i64 x, .int .i64 y] w fun e w' => e = .returned (.bool (inB x 1 8 && inB y 1 8)) ∧ w = w' := by
  cases h : (inB x 1 8 && inB y 1 8) with
  | false => exact isSizeI_no x y w h
  | true =>
    rw [Bool.and_eq_true, inB_iff, inB_iff] at h
    obtain ⟨X, rfl⟩ : ∃ X : Nat, x = X := ⟨x.toNat, by omega⟩
    obtain ⟨Y, rfl⟩ : ∃ Y : Nat, y = Y := ⟨y.toNat, by omega⟩
    have := isSize_any X Y w
    rwa [show sizeOK X Y = true by simp [sizeOK]; omega] at this
theorem sz64 (w h : Int) : szB w h 64 = (inB w 1 8 && inB h 1 8) := by
  unfold szB
  cases hs : (inB w 1 8 && inB h 1 8) with
  | false => rfl
  | true =>
    rw [Bool.and_eq_true, inB_iff, inB_iff] at hs
    have := mulB (a := w) (b := h) ⟨by omega, by omega⟩ ⟨by omega, by omega⟩
    simp [this.2]

set_option maxRecDepth 100000 in
theorem isSmall_any (w h : Int) (wr : World) :
    Calls Try.prog 29 #[.int .i64 w, .int .i64 h] wr fun e w' => e = .returned (.bool (szB w h 12)) ∧ wr = w' := by
  have h1 := fun wr => isSizeB_any w h wr
  rw [szB]
  cases hs : (inB w 1 8 && inB h 1 8) with
  | false =>
    rw [hs] at h1
    have H1 := Lib.hid h1
    clear hs h1
    go_enter Try.func29, Try.ntmps29
    go_wp2_with fail
    refine (H1.out _).mono ?_
    rintro e w1 ⟨rfl, rfl⟩
    go_wp2_with fail
    go_ret
    exact ⟨rfl, rfl⟩
  | true =>
    rw [hs] at h1
    have H1 := Lib.hid h1
    rw [Bool.and_eq_true, inB_iff, inB_iff] at hs
    obtain ⟨p1, p2⟩ := mulB (a := w) (b := h) ⟨by omega, by omega⟩ ⟨by omega, by omega⟩
    have wr1 : IntKind.i64.wrap (w * h) = w * h := IntWalk.i64_in _ ⟨by omega, by omega⟩
    have wr2 : wrap64 (w * h) = w * h := IntWalk.wrap64_in _ ⟨by omega, by omega⟩
    clear hs h1
    go_enter Try.func29, Try.ntmps29
    go_wp2_with fail
    refine (H1.out _).mono ?_
    rintro e w1 ⟨rfl, rfl⟩
    by_cases h12 : w * h ≤ 12
    · go_wp2_with fail
      go_ret
      exact ⟨by simp [h12], rfl⟩
    · go_wp2_with fail
      go_ret
      exact ⟨by simp [h12], rfl⟩

set_option maxRecDepth 100000 in
theorem isMines_any (w h m : Int) (wr : World) :
    Calls Try.prog 63 #[.int .i64 w, .int .i64 h, .int .i64 m] wr fun e w' => e = .returned (.bool (msB w h m)) ∧ wr = w' := by
  have h1 := fun wr => isSizeB_any w h wr
  rw [msB, sz64]
  cases hs : (inB w 1 8 && inB h 1 8) with
  | false =>
    rw [hs] at h1
    have H1 := Lib.hid h1
    clear hs h1
    go_enter Try.func63, Try.ntmps63
    go_wp2_with fail
    refine (H1.out _).mono ?_
    rintro e w1 ⟨rfl, rfl⟩
    go_wp2_with fail
    go_ret
    exact ⟨rfl, rfl⟩
  | true =>
    rw [hs] at h1
    have H1 := Lib.hid h1
    rw [Bool.and_eq_true, inB_iff, inB_iff] at hs
    obtain ⟨p1, p2⟩ := mulB (a := w) (b := h) ⟨by omega, by omega⟩ ⟨by omega, by omega⟩
    have wr2 : wrap64 (w * h) = w * h := IntWalk.wrap64_in _ ⟨by omega, by omega⟩
    clear hs h1
    go_enter Try.func63, Try.ntmps63
    go_wp2_with fail
    refine (H1.out _).mono ?_
    rintro e w1 ⟨rfl, rfl⟩
    by_cases h0 : 0 ≤ m
    · by_cases h12 : m ≤ w * h
      · go_wp2_with fail
        go_ret
        exact ⟨by simp [inB]; omega, rfl⟩
      · go_wp2_with fail
        go_ret
        exact ⟨by simp [inB]; omega, rfl⟩
    · go_wp2_with fail
      go_ret
      exact ⟨by simp [inB, h0]; intro h9; omega, rfl⟩

/-- How many neighbours the first k cells have. -/
def endsGo (W n : Nat) : Nat → Nat
  | 0 => 0
  | k + 1 => endsGo W n k + (nearM W n k).length
theorem endsGo_le (W n : Nat) (hn : n ≤ 64) : ∀ k, endsGo W n k ≤ k * 64
  | 0 => Nat.le_refl _
  | k + 1 => by
    have := endsGo_le W n hn k
    have h2 : (nearM W n k).length ≤ 64 := Nat.le_trans (nearGo_le W k n 0) hn
    unfold endsGo; omega
set_option maxRecDepth 100000 in
theorem ends_all : ∀ W : Nat, W < 9 → 1 ≤ W → ∀ H : Nat, H < 9 → 1 ≤ H → ((endsGo W (W * H) (W * H) / 2 : Nat) : Int) = prsM W H := by decide +kernel


end Go.Proofs.Ythlbplmghjaeoae
