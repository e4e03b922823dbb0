/- Strips: signs that are told, cell by cell (plain). -/
import Derived.Test.YthlbplmghjaeoafH4
namespace Go.Proofs.Ythlbplmghjaeoaf

/-- The sign before a cell. -/
def bfT (t : List Bool) (i : Nat) : Bool := if i = 0 then false else t.getD (i - 1) false
theorem take_snocB (t : List Bool) {i : Nat} (h : i < t.length) : t.take (i + 1) = t.take i ++ [t.getD i false] := by
  rw [List.take_succ_eq_append_getElem h]; simp [List.getD, h]
theorem endF_take (t : List Bool) : ∀ i, i ≤ t.length → (endF (t.take i) (false, false)).2 = bfT t i
  | 0, _ => rfl
  | i + 1, h => by rw [take_snocB t (by omega), endF_snoc]; simp [bfT]
theorem endF_take1 (t : List Bool) : ∀ i, i + 1 ≤ t.length → (endF (t.take (i + 1)) (false, false)).1 = bfT t i
  | i, h => by rw [take_snocB t (by omega), endF_snoc]; exact endF_take t i (by omega)
theorem frc_append (s : List UInt8) (u v : List Bool) : ∀ c e, frc s (u ++ v) c e = (frc s u c e && frc s v (c + u.length) (endF u e)) := by
  induction u with
  | nil => intro c e; simp [frc, endF]
  | cons a u ih =>
    intro c e
    rw [List.cons_append, frc, frc, ih, endF, List.length_cons, show c + 1 + u.length = c + (u.length + 1) by omega]
    simp only [Bool.and_assoc]
theorem frc_take (s : List UInt8) (t : List Bool) (j : Nat) (h : frc s (t.take j) 0 (false, false) = false) : frc s t 0 (false, false) = false := by
  have e := frc_append s (t.take j) (t.drop j) 0 (false, false)
  rw [List.take_append_drop, h] at e
  rw [e]; rfl
/-- May the cell i be so, with those beside it? -/
def ckT (s : List UInt8) (t : List Bool) (i : Nat) : Bool := canM s i (bfT t i) (t.getD i false) (t.getD (i + 1) false)
theorem frc_ck {s : List UInt8} (hs : ∀ c ∈ s, stB c = true) (t : List Bool) (ht : t.length ≤ s.length) : ∀ k, k + 1 ≤ t.length → (∀ i, i < k → ckT s t i = true) → frc s (t.take (k + 1)) 0 (false, false) = msB (arA s (k + 1)) (t.getD k false)
  | 0, h, _ => by
    rw [take_snocB t (by omega), frc_snoc]
    have e : ∀ b : Bool, mnB 46 (false.toNat + b.toNat) = true := by decide
    rw [show t.take 0 = [] from rfl, frc]
    simp only [Bool.true_and, List.length_nil, Nat.add_zero, Nat.zero_add, endF]
    rw [arA_zero, e, Bool.and_true]
  | k + 1, h, hc => by
    have ih := frc_ck hs t ht k (by omega) (fun i hi => hc i (by omega))
    have h1 := hc k (by omega)
    rw [ckT, can_split hs (by omega)] at h1
    rw [Bool.and_eq_true] at h1
    rw [take_snocB t (by omega), frc_snoc, ih, h1.1, endF_take1 t k (by omega), Nat.zero_add, List.length_take, Nat.min_eq_left (by omega), h1.2]
    simp
theorem frc_bad {s : List UInt8} (hs : ∀ c ∈ s, stB c = true) (t : List Bool) (ht : t.length ≤ s.length) (k : Nat) (hk : k + 1 < t.length) (hc : ∀ i, i < k → ckT s t i = true) (hb : ckT s t k = false) : frc s t 0 (false, false) = false := by
  refine frc_take s t (k + 2) ?_
  rw [take_snocB t (by omega), frc_snoc, frc_ck hs t ht k (by omega) hc, endF_take1 t k (by omega), Nat.zero_add, List.length_take, Nat.min_eq_left (by omega)]
  rw [ckT, can_split hs (by omega)] at hb
  cases h1 : msB (arA s (k + 1)) (t.getD k false)
  · rfl
  · rw [h1, Bool.true_and] at hb
    rw [hb]; simp
theorem fitW_bad (s : List UInt8) (t : List Bool) (ht : t.length ≤ s.length) (h : frc s t 0 (false, false) = false) (K : Nat) : fitW s (t.map sgM) K = 0 := by
  rw [fitW_told s t ht, h]; rfl
/-- What the last sign and those behind it come to. -/
def lsT (s : List UInt8) (t : List Bool) (a K : Nat) (n : Bool) : Nat :=
  if canM s a (bfT t a) (t.getD a false) n = true then shiftF (endS s (s.length - 1 - a) (t.getD a false) n) (cntF (t.take a)) K else 0
theorem fitW_ls {s : List UInt8} (hs : ∀ c ∈ s, stB c = true) (t : List Bool) (ht : t.length ≤ s.length) (a : Nat) (ha : t.length = a + 1) (hc : ∀ i, i < a → ckT s t i = true) (K : Nat) :
    fitW s (t.map sgM) K = lsT s t a K true + lsT s t a K false := by
  have hfr := frc_ck hs t ht a (by omega) hc
  rw [← ha, List.take_length] at hfr
  have htt : t = t.take a ++ [t.getD a false] := by
    have := take_snocB t (show a < t.length by omega)
    rw [← ha, List.take_length] at this
    exact this
  cases hm : msB (arA s t.length) (t.getD a false) with
  | true =>
    rw [hm] at hfr
    have hl : (t.take a).length = a := by rw [List.length_take]; omega
    have := fitW_last hs (t.take a) (t.getD a false) (by omega) (by rw [← htt]; exact hfr) K
    rw [← htt] at this
    rw [this]
    unfold lastS lsT
    rw [hl, endF_take t a (by omega)]
  | false =>
    rw [hm] at hfr
    rw [fitW_bad s t ht hfr]
    have hz : ∀ n, lsT s t a K n = 0 := by
      intro n
      unfold lsT
      rw [can_split hs (by omega), ← ha, hm]
      rfl
    rw [hz, hz]
theorem cntF_take (t : List Bool) {i : Nat} (h : i < t.length) : cntF (t.take (i + 1)) = cntF (t.take i) + (t.getD i false).toNat := by
  rw [take_snocB t h, cntF_snoc]
theorem cntF_le : ∀ t : List Bool, cntF t ≤ t.length
  | [] => Nat.le_refl _
  | m :: t => by
    have := cntF_le t
    have hm : m.toNat ≤ 1 := by cases m <;> decide
    simp only [cntF, List.length_cons]; omega
end Go.Proofs.Ythlbplmghjaeoaf
