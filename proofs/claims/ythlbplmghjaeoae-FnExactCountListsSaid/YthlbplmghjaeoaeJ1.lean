/- Counts by the model: sizes, pairs of cells, how many ways there are to choose. -/
import Derived.Test.YthlbplmghjaeoaeS1
import Derived.Outline
namespace Go.Proofs.Ythlbplmghjaeoae
open Go.RowKit

/-- Are there sides of at most so many cells? -/
def szB (w h most : Int) : Bool := inB w 1 8 && inB h 1 8 && decide (w * h ≤ most)
theorem mulB {a b : Int} (ha : 0 ≤ a ∧ a ≤ 8) (hb : 0 ≤ b ∧ b ≤ 8) : 0 ≤ a * b ∧ a * b ≤ 64 :=
  ⟨Int.mul_nonneg ha.1 hb.1, Int.le_trans (Int.mul_le_mul ha.2 hb.2 hb.1 (by omega)) (by omega)⟩
theorem inB_iff {n lo hi : Int} : inB n lo hi = true ↔ lo ≤ n ∧ n ≤ hi := by simp [inB]
theorem sz_case (w h most : Int) : szB w h most = false ∨ (szB w h most = true ∧ ∃ W H : Nat, w = W ∧ h = H ∧ 1 ≤ W ∧ W ≤ 8 ∧ 1 ≤ H ∧ H ≤ 8 ∧ ((W * H : Nat) : Int) ≤ most) := by
  cases hs : szB w h most with
  | false => exact .inl rfl
  | true =>
    rw [szB, Bool.and_eq_true, Bool.and_eq_true, inB_iff, inB_iff] at hs
    obtain ⟨⟨h1, h2⟩, h3⟩ := hs
    have h3 := of_decide_eq_true h3
    refine .inr ⟨rfl, w.toNat, h.toNat, by omega, by omega, by omega, by omega, by omega, by omega, ?_⟩
    rw [Int.natCast_mul, Int.toNat_of_nonneg (by omega), Int.toNat_of_nonneg (by omega)]
    exact h3

set_option maxRecDepth 100000 in
theorem ctSize_any (w h most : Int) (wr : World) :
    Calls Try.prog 26 #[.int .i64 w, .int .i64 h, .int .i64 most] wr fun e w' => e = .returned (.bool (szB w h most)) ∧ wr = w' := by
  have h1 := fun wr => l1In_any w 1 8 wr
  have h2 := fun wr => l1In_any h 1 8 wr
  rw [szB]
  cases e1 : inB w 1 8 with
  | false =>
    rw [e1] at h1
    have H1 := Lib.hid h1
    clear e1 h1 h2
    go_enter Try.func26, Try.ntmps26
    go_wp2_with fail
    refine (H1.out _).mono ?_
    rintro e w1 ⟨rfl, rfl⟩
    go_wp2_with fail
    go_ret
    exact ⟨rfl, rfl⟩
  | true =>
    rw [e1] at h1
    have H1 := Lib.hid h1
    have b1 := inB_iff.1 e1
    cases e2 : inB h 1 8 with
    | false =>
      rw [e2] at h2
      have H2 := Lib.hid h2
      clear e1 e2 h1 h2 b1
      go_enter Try.func26, Try.ntmps26
      go_wp2_with fail
      refine (H1.out _).mono ?_
      rintro e w1 ⟨rfl, rfl⟩
      go_wp2_with fail
      refine (H2.out _).mono ?_
      rintro e w1 ⟨rfl, rfl⟩
      go_wp2_with fail
      go_ret
      exact ⟨rfl, rfl⟩
    | true =>
      rw [e2] at h2
      have H2 := Lib.hid h2
      have b2 := inB_iff.1 e2
      have hm := mulB (a := w) (b := h) ⟨by omega, b1.2⟩ ⟨by omega, b2.2⟩
      have hm1 := hm.1
      have hm2 := hm.2
      clear e1 e2 h1 h2 hm
      go_enter Try.func26, Try.ntmps26
      go_wp2_with fail
      refine (H1.out _).mono ?_
      rintro e w1 ⟨rfl, rfl⟩
      go_wp2_with fail
      refine (H2.out _).mono ?_
      rintro e w1 ⟨rfl, rfl⟩
      go_wp2_with fail
      go_ret
      exact ⟨rfl, rfl⟩

/-- How many pairs of neighbours there are. -/
def prsM (W H : Int) : Int := W * (H - 1) + H * (W - 1) + 2 * (W - 1) * (H - 1)

/-- How many ways there are to choose. -/
def binom : Nat → Nat → Nat
  | _, 0 => 1
  | 0, _ + 1 => 0
  | n + 1, k + 1 => binom n k + binom n (k + 1)
def chI (n : Nat) (k : Int) : Int := if 0 ≤ k then (binom n k.toNat : Int) else 0
theorem binom_step (m i : Nat) (hi : 1 ≤ i) (h : m + i ≤ 12) : binom (m + (i - 1)) (i - 1) * (m + i) / i = binom (m + i) i ∧ binom (m + (i - 1)) (i - 1) ≤ 1000 := by
  have key : ∀ m < 13, ∀ i < 13, 1 ≤ i → m + i ≤ 12 → (binom (m + (i - 1)) (i - 1) * (m + i) / i = binom (m + i) i ∧ binom (m + (i - 1)) (i - 1) ≤ 1000) := by decide +kernel
  exact key m (by omega) i (by omega) hi h
theorem binom_over (n k : Nat) (h : n < k) : binom n k = 0 := by
  have : ∀ (n k : Nat), n < k → binom n k = 0 := by
    intro n
    induction n with
    | zero => intro k hk; match k, hk with | k + 1, _ => rfl
    | succ n ih => intro k hk; match k, hk with | k + 1, hk => rw [binom, ih k (by omega), ih (k + 1) (by omega)]
  exact this n k h

set_option maxRecDepth 100000 in
set_option maxHeartbeats 800000 in
theorem ctChoose_any (n : Nat) (k : Int) (hn : n ≤ 12) (wr : World) :
    Calls Try.prog 36 #[.int .i64 n, .int .i64 k] wr fun e w' => e = .returned (.int .i64 (chI n k)) ∧ wr = w' := by
  have h1 := fun wr => l1In_any k 0 n wr
  cases e1 : inB k 0 n with
  | false =>
    rw [e1] at h1
    have H1 := Lib.hid h1
    have HC : Hid (chI n k = 0) := by
      rw [Hid, chI]
      split
      · rename_i h0
        have : ¬ (0 ≤ k ∧ k ≤ n) := fun h => by rw [inB_iff.2 h] at e1; cases e1
        rw [binom_over n k.toNat (by omega)]; rfl
      · rfl
    clear e1 h1
    go_enter Try.func36, Try.ntmps36
    go_wp2_with fail
    refine (H1.out _).mono ?_
    rintro e w1 ⟨rfl, rfl⟩
    go_wp2_with fail
    go_ret
    exact ⟨by rw [HC.out]; rfl, rfl⟩
  | true =>
    rw [e1] at h1
    have H1 := Lib.hid h1
    obtain ⟨b1, b2⟩ := inB_iff.1 e1
    obtain ⟨q, rfl⟩ : ∃ q : Nat, k = q := ⟨k.toNat, by omega⟩
    obtain ⟨m, hm⟩ : ∃ m : Nat, n = m + q := ⟨n - q, by omega⟩
    have HC : Hid (chI n q = (binom (m + q) q : Nat)) := by rw [Hid, chI, if_pos b1, hm]; rfl
    have hm12 : m + q ≤ 12 := by omega
    have HM := Lib.hid hm
    have hnk : (n : Int) - (q : Int) = m := by omega
    have HNK := Lib.hid hnk
    clear e1 h1 hm hnk
    go_enter Try.func36, Try.ntmps36
    go_wp2_with fail
    refine (H1.out _).mono ?_
    rintro e w1 ⟨rfl, rfl⟩
    go_wp2_with fail
    go_loop [5, 6] (fun o i => ∃ j : Nat, 1 ≤ j ∧ j ≤ q + 1 ∧ i = .int .i64 j ∧ o = .int .i64 (binom (m + (j - 1)) (j - 1) : Nat)) (fun _ i => q + 1 - (intOf i).toNat)
    case atStart => exact ⟨1, by omega, by omega, rfl, by cases m <;> rfl⟩
    case round =>
      obtain ⟨j, hj1, hj2, rfl, rfl⟩ := hrel
      by_cases hlt : j ≤ q
      · obtain ⟨s1, s2⟩ := binom_step m j hj1 (by omega)
        have s3 : (binom (m + (j - 1)) (j - 1) : Int) * ((m : Int) + j) ≤ 12000 := by
          have h := Nat.mul_le_mul s2 (show m + j ≤ 12 by omega)
          have h2 : (binom (m + (j - 1)) (j - 1) : Int) * ((m : Int) + j) = ((binom (m + (j - 1)) (j - 1) * (m + j) : Nat) : Int) := by simp
          rw [h2]
          omega
        have s4 : 0 ≤ (binom (m + (j - 1)) (j - 1) : Int) * ((m : Int) + j) := Int.mul_nonneg (by omega) (by omega)
        have hle : (j : Int) ≤ q := by omega
        rw [← HNK.out] at s3 s4
        have HS : Hid ((binom (m + (j - 1)) (j - 1) : Int) * ((n : Int) - q + j) / j = (binom (m + j) j : Nat)) := by
          rw [Hid, HNK.out, ← s1]; simp
        generalize binom (m + (j - 1)) (j - 1) = B at *
        clear s1
        go_wp2_with fail
        go_round
        case rel => exact ⟨j + 1, by omega, by omega, by go_num, by rw [HS.out]; rfl⟩
        case measure => simp [intOf]; omega
      · obtain rfl : j = q + 1 := by omega
        go_wp2_with fail
        go_ret
        exact ⟨by rw [HC.out]; rfl, rfl⟩
end Go.Proofs.Ythlbplmghjaeoae
