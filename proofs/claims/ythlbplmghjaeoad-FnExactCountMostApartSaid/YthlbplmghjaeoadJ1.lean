/- Counts by the model: sizes, pairs of cells, how many ways there are to choose. -/
import Derived.Test.YthlbplmghjaeoadS1
import Derived.Outline
namespace Go.Proofs.Ythlbplmghjaeoad
open Go.RowKit

/-- Are there sides of at most so many cells? -/
def szB (w h most : Int) : Bool := inB w 1 8 && inB h 1 8 && decide (w * h ≤ most)
theorem mulB {a b : Int} (ha : 0 ≤ a ∧ a ≤ 8) (hb : 0 ≤ b ∧ b ≤ 8) : 0 ≤ a * b ∧ a * b ≤ 64 :=
  ⟨Int.mul_nonneg ha.1 hb.1, Int.le_trans (Int.mul_le_mul ha.2 hb.2 hb.1 (by omega)) (by omega)⟩
theorem inB_iff {n lo hi : Int} : inB n lo hi = true ↔ lo ≤ n ∧ n ≤ hi := by simp [inB]
theorem sz_case (w h most : Int) : szB w h most = false ∨ (szB w h most = true ∧ ∃ W H : Nat, w = W ∧ h = H ∧ 1 ≤ W ∧ W ≤ 8 ∧ 1 ≤ H ∧ H ≤ 8 ∧ ((W * H : Nat) : Int) ≤ most) := by
  cases hs : szB w h most with
  | false => exact .inl rfl
  | true =>
    rw [szB, Bool.and_eq_true, Bool.and_eq_true, inB_iff, inB_iff] at hs
    obtain ⟨⟨h1, h2⟩, h3⟩ := hs
    have h3 := of_decide_eq_true h3
    refine .inr ⟨rfl, w.toNat, h.toNat, by omega, by omega, by omega, by omega, by omega, by omega, ?_⟩
    rw [Int.natCast_mul, Int.toNat_of_nonneg (by omega), Int.toNat_of_nonneg (by omega)]
    exact h3

set_option maxRecDepth 100000 in
theorem ctSize_any (w h most : Int) (wr : World) :
    Calls Try.prog 30 #[.int .i64 w, .int .i64 h, .int .i64 most] wr fun e w' => e = .returned (.bool (szB w h most)) ∧ wr = w' := by
  have h1 := fun wr => l1In_any w 1 8 wr
  have h2 := fun wr => l1In_any h 1 8 wr
  rw [szB]
  cases e1 : inB w 1 8 with
  | false =>
    rw [e1] at h1
    have H1 := Lib.hid h1
    clear e1 h1 h2
    go_enter Try.func30, Try.ntmps30
    go_wp2_with fail
    refine (H1.out _).mono ?_
    rintro e w1 ⟨rfl, rfl⟩
    go_wp2_with fail
    go_ret
    exact ⟨rfl, rfl⟩
  | true =>
    rw [e1] at h1
    have H1 := Lib.hid h1
    have b1 := inB_iff.1 e1
    cases e2 : inB h 1 8 with
    | false =>
      rw [e2] at h2
      have H2 := Lib.hid h2
      clear e1 e2 h1 h2 b1
      go_enter Try.func30, Try.ntmps30
      go_wp2_with fail
      refine (H1.out _).mono ?_
      rintro e w1 ⟨rfl, rfl⟩
      go_wp2_with fail
      refine (H2.out _).mono ?_
      rintro e w1 ⟨rfl, rfl⟩
      go_wp2_with fail
      go_ret
      exact ⟨rfl, rfl⟩
    | true =>
      rw [e2] at h2
      have H2 := Lib.hid h2
      have b2 := inB_iff.1 e2
      have hm := mulB (a := w) (b := h) ⟨by omega, b1.2⟩ ⟨by omega, b2.2⟩
      have hm1 := hm.1
      have hm2 := hm.2
      clear e1 e2 h1 h2 hm
      go_enter Try.func30, Try.ntmps30
      go_wp2_with fail
      refine (H1.out _).mono ?_
      rintro e w1 ⟨rfl, rfl⟩
      go_wp2_with fail
      refine (H2.out _).mono ?_
      rintro e w1 ⟨rfl, rfl⟩
      go_wp2_with fail
      go_ret
      exact ⟨rfl, rfl⟩

/-- How many pairs of neighbours there are. -/
def prsM (W H : Int) : Int := W * (H - 1) + H * (W - 1) + 2 * (W - 1) * (H - 1)
set_option maxRecDepth 100000 in
theorem ctPairs_any (W H : Int) (hW : 1 ≤ W ∧ W ≤ 8) (hH : 1 ≤ H ∧ H ≤ 8) (wr : World) :
    Calls Try.prog 41 #[.int .i64 W, .int .i64 H] wr fun e w' => e = .returned (.int .i64 (prsM W H)) ∧ wr = w' := by
  obtain ⟨a1, a2⟩ := mulB (a := W) (b := H - 1) ⟨by omega, hW.2⟩ ⟨by omega, by omega⟩
  obtain ⟨b1, b2⟩ := mulB (a := H) (b := W - 1) ⟨by omega, hH.2⟩ ⟨by omega, by omega⟩
  obtain ⟨c1, c2⟩ := mulB (a := W - 1) (b := H - 1) ⟨by omega, by omega⟩ ⟨by omega, by omega⟩
  have d : 2 * (W - 1) * (H - 1) = 2 * ((W - 1) * (H - 1)) := by rw [Int.mul_assoc]
  have d1 : 0 ≤ 2 * (W - 1) * (H - 1) := by omega
  have d2 : 2 * (W - 1) * (H - 1) ≤ 128 := by omega
  have hW1 := hW.1
  have hW2 := hW.2
  have hH1 := hH.1
  have hH2 := hH.2
  clear d hW hH c1 c2
  go_enter Try.func41, Try.ntmps41
  go_wp2_with fail
  go_ret
  exact ⟨rfl, rfl⟩

/-- How many ways there are to choose. -/
def binom : Nat → Nat → Nat
  | _, 0 => 1
  | 0, _ + 1 => 0
  | n + 1, k + 1 => binom n k + binom n (k + 1)
def chI (n : Nat) (k : Int) : Int := if 0 ≤ k then (binom n k.toNat : Int) else 0
theorem binom_step (m i : Nat) (hi : 1 ≤ i) (h : m + i ≤ 12) : binom (m + (i - 1)) (i - 1) * (m + i) / i = binom (m + i) i ∧ binom (m + (i - 1)) (i - 1) ≤ 1000 := by
  have key : ∀ m < 13, ∀ i < 13, 1 ≤ i → m + i ≤ 12 → (binom (m + (i - 1)) (i - 1) * (m + i) / i = binom (m + i) i ∧ binom (m + (i - 1)) (i - 1) ≤ 1000) := by decide +kernel
  exact key m (by omega) i (by omega) hi h
theorem binom_over (n k : Nat) (h : n < k) : binom n k = 0 := by
  have : ∀ (n k : Nat), n < k → binom n k = 0 := by
    intro n
    induction n with
    | zero => intro k hk; match k, hk with | k + 1, _ => rfl
    | succ n ih => intro k hk; match k, hk with | k + 1, hk => rw [binom, ih k (by omega), ih (k + 1) (by omega)]
  exact this n k h

end Go.Proofs.Ythlbplmghjaeoad
