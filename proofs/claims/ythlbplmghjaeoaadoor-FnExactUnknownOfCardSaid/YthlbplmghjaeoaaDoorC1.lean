/- Sets of cells as bits: how many a set of 64 bits has, its members in order, the lowest one. -/
import Derived.Test.YthlbplmghjaeoaaDoorWG
import Derived.Lib.TrailingZeros
import Derived.Outline
namespace Go.Proofs.YthlbplmghjaeoaaDoor
open Go.RowKit

/-- A number told by its bytes, the lowest first. -/
def byv : List Nat → Nat
  | [] => 0
  | b :: r => 256 * byv r + b
theorem and_byte (a b c d : Nat) (hb : b < 256) (hd : d < 256) : (256 * a + b) &&& (256 * c + d) = 256 * (a &&& c) + (b &&& d) := by
  have hbd : b &&& d < 2 ^ 8 := Nat.and_lt_two_pow _ hd
  apply Nat.eq_of_testBit_eq
  intro j
  have e : ∀ (x y : Nat), y < 2 ^ 8 → (256 * x + y).testBit j = if j < 8 then y.testBit j else x.testBit (j - 8) := fun x y h => Nat.testBit_two_pow_mul_add x h j
  rw [Nat.testBit_and, e a b hb, e c d hd, e _ _ hbd]
  by_cases h : j < 8
  · rw [if_pos h, if_pos h, if_pos h, Nat.testBit_and]
  · rw [if_neg h, if_neg h, if_neg h, Nat.testBit_and]
theorem byte_A : ∀ t, t < 2 → ∀ b, b < 256 → (128 * t + b / 2) &&& 85 = b / 2 &&& 85 := by decide +kernel
theorem byte_B : ∀ t, t < 4 → ∀ b, b < 256 → (64 * t + b / 4) &&& 51 = b / 4 &&& 51 := by decide +kernel
theorem stage_A : ∀ bs : List Nat, (∀ b ∈ bs, b < 256) → nAB 2 (byv (List.replicate bs.length 85)) (byv bs) = byv (bs.map (nAB 2 85))
  | [], _ => rfl
  | b :: r, h => by
    have hb := h b List.mem_cons_self
    have ih := stage_A r (fun x hx => h x (List.mem_cons_of_mem _ hx))
    have e : (256 * byv r + b) / 2 = 256 * (byv r / 2) + (128 * (byv r % 2) + b / 2) := by omega
    show nAB 2 (256 * byv (List.replicate r.length 85) + 85) (256 * byv r + b) = 256 * byv (r.map (nAB 2 85)) + nAB 2 85 b
    rw [← ih, nAB, e, and_byte _ _ _ _ (by omega) (by decide), and_byte _ _ _ _ hb (by decide), byte_A _ (by omega) _ hb, nAB, nAB]
    omega
theorem stage_B : ∀ bs : List Nat, (∀ b ∈ bs, b < 256) → nAB 4 (byv (List.replicate bs.length 51)) (byv bs) = byv (bs.map (nAB 4 51))
  | [], _ => rfl
  | b :: r, h => by
    have hb := h b List.mem_cons_self
    have ih := stage_B r (fun x hx => h x (List.mem_cons_of_mem _ hx))
    have e : (256 * byv r + b) / 4 = 256 * (byv r / 4) + (64 * (byv r % 4) + b / 4) := by omega
    show nAB 4 (256 * byv (List.replicate r.length 51) + 51) (256 * byv r + b) = 256 * byv (r.map (nAB 4 51)) + nAB 4 51 b
    rw [← ih, nAB, e, and_byte _ _ _ _ (by omega) (by decide), and_byte _ _ _ _ hb (by decide), byte_B _ (by omega) _ hb, nAB, nAB]
    omega
def lowNib (b : Nat) : Prop := b % 16 ≤ 4 ∧ b / 16 ≤ 4
theorem byv_mod (bs : List Nat) (h : ∀ b ∈ bs, lowNib b) : byv bs % 16 ≤ 4 := by
  cases bs with
  | nil => simp [byv]
  | cons b r =>
    have := (h b List.mem_cons_self).1
    show (256 * byv r + b) % 16 ≤ 4
    omega
theorem and_15 (x : Nat) : x &&& 15 = x % 16 := Nat.and_two_pow_sub_one_eq_mod x 4
theorem stage_C : ∀ bs : List Nat, (∀ b ∈ bs, lowNib b) → (byv bs / 16 + byv bs) &&& byv (List.replicate bs.length 15) = byv (bs.map fun b => b % 16 + b / 16)
  | [], _ => rfl
  | b :: r, h => by
    obtain ⟨h1, h2⟩ := h b List.mem_cons_self
    have hr := fun x hx => h x (List.mem_cons_of_mem _ hx)
    have ih := stage_C r hr
    have hm := byv_mod r hr
    have e : (256 * byv r + b) / 16 + (256 * byv r + b) = 256 * (byv r / 16 + byv r) + (16 * (byv r % 16) + b / 16 + b) := by omega
    show ((256 * byv r + b) / 16 + (256 * byv r + b)) &&& (256 * byv (List.replicate r.length 15) + 15) = 256 * byv (r.map fun b => b % 16 + b / 16) + (b % 16 + b / 16)
    rw [e, and_byte _ _ _ _ (by omega) (by decide), ih, and_15]
    omega
/-- How many of the n lowest bits are set. -/
def cntB (n x : Nat) : Nat := ((List.range n).filter x.testBit).length
theorem cntB_succ (n x : Nat) : cntB (n + 1) x = x % 2 + cntB n (x / 2) := by
  have e : (x.testBit ∘ Nat.succ) = (x / 2).testBit := by
    funext i
    exact Nat.testBit_succ x i
  unfold cntB
  rw [List.range_succ_eq_map, List.filter_cons, List.filter_map, e]
  rcases Nat.mod_two_eq_zero_or_one x with h | h
  · simp [Nat.testBit_zero, h]
  · simp [Nat.testBit_zero, h]
    omega
def pop8 (b : Nat) : Nat := b % 2 + b / 2 % 2 + b / 4 % 2 + b / 8 % 2 + b / 16 % 2 + b / 32 % 2 + b / 64 % 2 + b / 128 % 2
theorem cntB_8 (n x : Nat) : cntB (n + 8) x = pop8 (x % 256) + cntB n (x / 256) := by
  rw [cntB_succ (n + 7), cntB_succ (n + 6), cntB_succ (n + 5), cntB_succ (n + 4), cntB_succ (n + 3), cntB_succ (n + 2), cntB_succ (n + 1), cntB_succ n]
  simp only [Nat.div_div_eq_div_mul, Nat.reduceMul]
  unfold pop8
  generalize cntB n (x / 256) = c
  omega
theorem pop8_all : ∀ b, b < 256 → lowNib (nAB 4 51 (nAB 2 85 b)) ∧ (nAB 4 51 (nAB 2 85 b)) % 16 + (nAB 4 51 (nAB 2 85 b)) / 16 = pop8 b := by
  unfold lowNib
  decide +kernel
theorem pop8_le (b : Nat) : pop8 b ≤ 8 := by unfold pop8; omega
theorem nAB2_lt : ∀ b, b < 256 → nAB 2 85 b < 256 := by decide +kernel
theorem stage_D (c0 c1 c2 c3 c4 c5 c6 c7 : Nat) (h0 : c0 ≤ 8) (h1 : c1 ≤ 8) (h2 : c2 ≤ 8) (h3 : c3 ≤ 8) (h4 : c4 ≤ 8) (h5 : c5 ≤ 8) (h6 : c6 ≤ 8) (h7 : c7 ≤ 8) :
    nD 4294967296 (nD 65536 (nD 256 (byv [c0, c1, c2, c3, c4, c5, c6, c7]))) &&& 127 = c0 + (c1 + (c2 + (c3 + (c4 + (c5 + (c6 + c7)))))) := by
  have e1 : nD 256 (byv [c0, c1, c2, c3, c4, c5, c6, c7]) = byv [c0 + c1, c1 + c2, c2 + c3, c3 + c4, c4 + c5, c5 + c6, c6 + c7, c7] := by
    simp only [nD, byv]; omega
  have e2 : nD 65536 (byv [c0 + c1, c1 + c2, c2 + c3, c3 + c4, c4 + c5, c5 + c6, c6 + c7, c7]) = byv [c0 + c1 + (c2 + c3), c1 + c2 + (c3 + c4), c2 + c3 + (c4 + c5), c3 + c4 + (c5 + c6), c4 + c5 + (c6 + c7), c5 + c6 + c7, c6 + c7, c7] := by
    simp only [nD, byv]; omega
  have e3 : nD 4294967296 (byv [c0 + c1 + (c2 + c3), c1 + c2 + (c3 + c4), c2 + c3 + (c4 + c5), c3 + c4 + (c5 + c6), c4 + c5 + (c6 + c7), c5 + c6 + c7, c6 + c7, c7]) % 128 = c0 + (c1 + (c2 + (c3 + (c4 + (c5 + (c6 + c7)))))) := by
    clear e1 e2
    have q : byv [c0 + c1 + (c2 + c3), c1 + c2 + (c3 + c4), c2 + c3 + (c4 + c5), c3 + c4 + (c5 + c6), c4 + c5 + (c6 + c7), c5 + c6 + c7, c6 + c7, c7] / 4294967296 = 256 * (256 * (256 * c7 + (c6 + c7)) + (c5 + c6 + c7)) + (c4 + c5 + (c6 + c7)) := by
      simp only [byv]; omega
    have q2 : byv [c0 + c1 + (c2 + c3), c1 + c2 + (c3 + c4), c2 + c3 + (c4 + c5), c3 + c4 + (c5 + c6), c4 + c5 + (c6 + c7), c5 + c6 + c7, c6 + c7, c7] = 256 * byv [c1 + c2 + (c3 + c4), c2 + c3 + (c4 + c5), c3 + c4 + (c5 + c6), c4 + c5 + (c6 + c7), c5 + c6 + c7, c6 + c7, c7] + (c0 + c1 + (c2 + c3)) := rfl
    unfold nD
    rw [q, q2]
    generalize byv [c1 + c2 + (c3 + c4), c2 + c3 + (c4 + c5), c3 + c4 + (c5 + c6), c4 + c5 + (c6 + c7), c5 + c6 + c7, c6 + c7, c7] = r
    omega
  rw [e1, e2, Nat.and_two_pow_sub_one_eq_mod _ 7]
  exact e3
theorem popN_all (x : Nat) (h : x < 18446744073709551616) : popN x = cntB 64 x := by
  have hb : ∀ b ∈ [x % 256, x / 256 % 256, x / 256 / 256 % 256, x / 256 / 256 / 256 % 256, x / 256 / 256 / 256 / 256 % 256, x / 256 / 256 / 256 / 256 / 256 % 256, x / 256 / 256 / 256 / 256 / 256 / 256 % 256, x / 256 / 256 / 256 / 256 / 256 / 256 / 256 % 256], b < 256 := by
    intro b hb
    simp only [List.mem_cons, List.not_mem_nil, or_false] at hb
    omega
  have hx : x = byv [x % 256, x / 256 % 256, x / 256 / 256 % 256, x / 256 / 256 / 256 % 256, x / 256 / 256 / 256 / 256 % 256, x / 256 / 256 / 256 / 256 / 256 % 256, x / 256 / 256 / 256 / 256 / 256 / 256 % 256, x / 256 / 256 / 256 / 256 / 256 / 256 / 256 % 256] := by
    simp only [byv]; omega
  have hc : cntB 64 x = pop8 (x % 256) + (pop8 (x / 256 % 256) + (pop8 (x / 256 / 256 % 256) + (pop8 (x / 256 / 256 / 256 % 256) + (pop8 (x / 256 / 256 / 256 / 256 % 256) + (pop8 (x / 256 / 256 / 256 / 256 / 256 % 256) + (pop8 (x / 256 / 256 / 256 / 256 / 256 / 256 % 256) + pop8 (x / 256 / 256 / 256 / 256 / 256 / 256 / 256 % 256))))))) := by
    rw [cntB_8 56, cntB_8 48, cntB_8 40, cntB_8 32, cntB_8 24, cntB_8 16, cntB_8 8, cntB_8 0]
    rfl
  rw [hc, popN]
  generalize x % 256 = b0 at *
  generalize x / 256 % 256 = b1 at *
  generalize x / 256 / 256 % 256 = b2 at *
  generalize x / 256 / 256 / 256 % 256 = b3 at *
  generalize x / 256 / 256 / 256 / 256 % 256 = b4 at *
  generalize x / 256 / 256 / 256 / 256 / 256 % 256 = b5 at *
  generalize x / 256 / 256 / 256 / 256 / 256 / 256 % 256 = b6 at *
  generalize x / 256 / 256 / 256 / 256 / 256 / 256 / 256 % 256 = b7 at *
  subst hx
  have e1 := stage_A _ hb
  have e2 := stage_B _ (fun b (hbm : b ∈ [b0, b1, b2, b3, b4, b5, b6, b7].map (nAB 2 85)) => by
    obtain ⟨y, hy, rfl⟩ := List.mem_map.1 hbm
    exact nAB2_lt y (hb y hy))
  have e3 := stage_C _ (fun b (hbm : b ∈ ([b0, b1, b2, b3, b4, b5, b6, b7].map (nAB 2 85)).map (nAB 4 51)) => by
    obtain ⟨z, hz, rfl⟩ := List.mem_map.1 hbm
    obtain ⟨y, hy, rfl⟩ := List.mem_map.1 hz
    exact (pop8_all y (hb y hy)).1)
  have e4 : ((([b0, b1, b2, b3, b4, b5, b6, b7].map (nAB 2 85)).map (nAB 4 51)).map fun b => b % 16 + b / 16) = [b0, b1, b2, b3, b4, b5, b6, b7].map pop8 := by
    rw [List.map_map, List.map_map]
    exact List.map_congr_left fun y hy => (pop8_all y (hb y hy)).2
  have m1 : (6148914691236517205 : Nat) = byv (List.replicate [b0, b1, b2, b3, b4, b5, b6, b7].length 85) := by simp [byv, List.replicate]
  have m2 : (3689348814741910323 : Nat) = byv (List.replicate ([b0, b1, b2, b3, b4, b5, b6, b7].map (nAB 2 85)).length 51) := by simp [byv, List.replicate]
  have m3 : (1085102592571150095 : Nat) = byv (List.replicate (([b0, b1, b2, b3, b4, b5, b6, b7].map (nAB 2 85)).map (nAB 4 51)).length 15) := by simp [byv, List.replicate]
  rw [m1, e1, m2, e2, nC, m3, e3, e4]
  exact stage_D _ _ _ _ _ _ _ _ (pop8_le _) (pop8_le _) (pop8_le _) (pop8_le _) (pop8_le _) (pop8_le _) (pop8_le _) (pop8_le _)

/-- The members of a set that is kept as bits, and the set of a list. -/
def bitsM (x : Nat) : List Nat := (List.range 64).filter x.testBit
def maskM (xs : List Nat) : Nat := xs.foldl (fun a c => a ||| 2 ^ c) 0
theorem mem_bitsM (x k : Nat) : k ∈ bitsM x ↔ k < 64 ∧ x.testBit k = true := by rw [bitsM, List.mem_filter, List.mem_range]
theorem bitsM_rise (x : Nat) : (bitsM x).Pairwise (· < ·) := List.Pairwise.filter _ List.pairwise_lt_range
theorem bitsM_le (x : Nat) : (bitsM x).length ≤ 64 := by
  refine Nat.le_trans (List.length_filter_le _ _) ?_
  rw [List.length_range]
  exact Nat.le_refl _
theorem maskM_snoc (xs : List Nat) (c : Nat) : maskM (xs ++ [c]) = maskM xs ||| 2 ^ c := by simp [maskM, List.foldl_append]
theorem maskM_step (xs : List Nat) (k : Nat) (hk : k < xs.length) : maskM (xs.take (k + 1)) = maskM (xs.take k) ||| 2 ^ xs[k] := by
  rw [List.take_succ_eq_append_getElem hk, maskM_snoc]
theorem maskM_bit (xs : List Nat) (k : Nat) : (maskM xs).testBit k = decide (k ∈ xs) := by
  rw [← List.reverse_reverse xs]
  generalize xs.reverse = r
  induction r with
  | nil => simp [maskM]
  | cons c r ih =>
    rw [List.reverse_cons, maskM_snoc, Nat.testBit_or, ih, Nat.testBit_two_pow]
    apply Bool.eq_iff_iff.2
    simp only [Bool.or_eq_true, decide_eq_true_eq, List.mem_append, List.mem_singleton]
    constructor
    · rintro (h | h)
      · exact .inl h
      · exact .inr h.symm
    · rintro (h | h)
      · exact .inl h
      · exact .inr h.symm
theorem maskM_lt (xs : List Nat) (h : ∀ c ∈ xs, c < 64) : maskM xs < 18446744073709551616 := by
  refine Nat.lt_pow_two_of_testBit (n := 64) _ fun i hi => ?_
  rw [maskM_bit]
  exact decide_eq_false fun hm => by have := h i hm; omega
theorem bitsM_mask {xs : List Nat} (hr : xs.Pairwise (· < ·)) (h : ∀ c ∈ xs, c < 64) : bitsM (maskM xs) = xs := by
  refine rise_ext (bitsM_rise _) hr fun x => ?_
  rw [mem_bitsM, maskM_bit, decide_eq_true_iff]
  exact ⟨fun q => q.2, fun q => ⟨h x q, q⟩⟩
theorem bitsM_zero : bitsM 0 = [] := by simp [bitsM]
theorem bitsM_nil {x : Nat} (hx : x < 18446744073709551616) : bitsM x = [] ↔ x = 0 := by
  constructor
  · intro h
    apply Nat.eq_of_testBit_eq
    intro i
    rw [Nat.zero_testBit]
    by_cases hi : i < 64
    · cases ht : x.testBit i with
      | false => rfl
      | true => have : i ∈ bitsM x := (mem_bitsM x i).2 ⟨hi, ht⟩
                rw [h] at this; cases this
    · exact Nat.testBit_lt_two_pow (Nat.lt_of_lt_of_le hx (show 2 ^ 64 ≤ 2 ^ i from Nat.pow_le_pow_right (by decide) (by omega)))
  · rintro rfl; exact bitsM_zero
/-- The lowest member, and the set without it. -/
theorem bitsM_low (x : Nat) (h0 : x ≠ 0) (h : x < 18446744073709551616) : bitsM x = Lib.ctz 64 x :: bitsM (x &&& (x - 1)) := by
  obtain ⟨m, hm, hk⟩ := Lib.ctzFrom_spec 64 x (by omega) h
  have e : Lib.ctz 64 x = Lib.ctzFrom 64 x := by simp [Lib.ctz, h0]
  rw [e]
  generalize Lib.ctzFrom 64 x = k at *
  have hp : 0 < 2 ^ k := Nat.two_pow_pos k
  have q1 : x = 2 ^ k * (2 * m + 1) + 0 := hm
  have q2 : x - 1 = 2 ^ k * (2 * m) + (2 ^ k - 1) := by
    rw [hm, Nat.mul_add, Nat.mul_one]; omega
  have b1 : ∀ i, x.testBit i = if i < k then false else (2 * m + 1).testBit (i - k) := fun i => by
    conv => lhs; rw [q1]
    rw [Nat.testBit_two_pow_mul_add _ hp, Nat.zero_testBit]
  have b2 : ∀ i, (x - 1).testBit i = if i < k then (2 ^ k - 1).testBit i else (2 * m).testBit (i - k) := fun i => by
    rw [q2, Nat.testBit_two_pow_mul_add _ (by omega)]
  have hS : ∀ j, (2 * m + 1).testBit (j + 1) = m.testBit j := fun j => by rw [Nat.testBit_succ]; congr 1; omega
  have hS0 : ∀ j, (2 * m).testBit (j + 1) = m.testBit j := fun j => by rw [Nat.testBit_succ]; congr 1; omega
  have hZ : (2 * m + 1).testBit 0 = true := by rw [Nat.testBit_zero]; simp
  have hZ0 : (2 * m).testBit 0 = false := by rw [Nat.testBit_zero]; simp
  have c1 : ∀ i, x.testBit i = true ↔ i = k ∨ (k < i ∧ m.testBit (i - k - 1) = true) := fun i => by
    rw [b1]
    rcases Nat.lt_trichotomy i k with g | g | g
    · rw [if_pos g]; constructor
      · intro h; cases h
      · rintro (h | h) <;> omega
    · subst g; simp [hZ]
    · rw [if_neg (by omega), show i - k = (i - k - 1) + 1 by omega, hS, Nat.add_sub_cancel]
      exact ⟨fun h => .inr ⟨g, h⟩, fun h => (h.resolve_left (by omega)).2⟩
  have c2 : ∀ i, (x &&& (x - 1)).testBit i = true ↔ k < i ∧ m.testBit (i - k - 1) = true := fun i => by
    rw [Nat.testBit_and, Bool.and_eq_true, c1, b2]
    rcases Nat.lt_trichotomy i k with g | g | g
    · constructor
      · rintro ⟨h | h, _⟩ <;> omega
      · rintro ⟨h, _⟩; omega
    · subst g; simp [hZ0]
    · rw [if_neg (by omega), show i - k = (i - k - 1) + 1 by omega, hS0, Nat.add_sub_cancel]
      exact ⟨fun h => ⟨g, h.2⟩, fun h => ⟨.inr h, h.2⟩⟩
  refine rise_ext (bitsM_rise x) (List.pairwise_cons.2 ⟨fun i hi => ((c2 i).1 ((mem_bitsM _ i).1 hi).2).1, bitsM_rise _⟩) fun i => ?_
  rw [mem_bitsM, c1, List.mem_cons, mem_bitsM, c2]
  constructor
  · rintro ⟨h1, h2 | h2⟩
    · exact .inl h2
    · exact .inr ⟨h1, h2⟩
  · rintro (h2 | ⟨h1, h2⟩)
    · exact ⟨by omega, .inl h2⟩
    · exact ⟨h1, .inr h2⟩
theorem popN_len (x : Nat) (h : x < 18446744073709551616) : popN x = (bitsM x).length := popN_all x h
end Go.Proofs.YthlbplmghjaeoaaDoor
