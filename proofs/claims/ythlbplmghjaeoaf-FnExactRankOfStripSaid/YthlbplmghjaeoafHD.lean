/- Strips: lists of mines from the back, by the model: the table. -/
import Derived.Test.YthlbplmghjaeoafHC
import Derived.Test.YthlbplmghjaeoafGY1
import Derived.Deep.RegionLaw
import Derived.IntWalk
namespace Go.Proofs.Ythlbplmghjaeoaf
open Go.RowKit

/-- A table of rows of four times forty-one numbers. -/
def memL (n : Nat) (F : Nat → Nat → Nat → Nat) : List Value := (List.range (n * 164)).map fun i => Value.int .i64 (F (i / 164) (i / 41 % 4) (i % 41) : Nat)
def memA (n : Nat) (F : Nat → Nat → Nat → Nat) : Array Value := (memL n F).toArray
theorem memA_size (n : Nat) (F : Nat → Nat → Nat → Nat) : (memA n F).size = n * 164 := by simp [memA, memL]
theorem memA_get {n r q m : Nat} (F : Nat → Nat → Nat → Nat) (hr : r < n) (hq : q < 4) (hm : m < 41) : (memA n F)[r * 164 + q * 41 + m]? = some (.int .i64 (F r q m : Nat)) := by
  have h1 : r * 164 + q * 41 + m < n * 164 := by omega
  have e1 : (r * 164 + q * 41 + m) / 164 = r := by omega
  have e2 : (r * 164 + q * 41 + m) / 41 % 4 = q := by omega
  have e3 : (r * 164 + q * 41 + m) % 41 = m := by omega
  simp [memA, memL, h1, e1, e2, e3]
theorem memA_congr {n : Nat} {F G : Nat → Nat → Nat → Nat} (h : ∀ r q m, r < n → q < 4 → m < 41 → F r q m = G r q m) : memA n F = memA n G := by
  have : memL n F = memL n G := List.map_congr_left fun i hi => by
    have hi' : i < n * 164 := by simpa using hi
    rw [h (i / 164) (i / 41 % 4) (i % 41) (by omega) (by omega) (by omega)]
  rw [memA, memA, this]
theorem memA_set {n r q m : Nat} (F : Nat → Nat → Nat → Nat) (v : Nat) (hr : r < n) (hq : q < 4) (hm : m < 41) :
    (memA n F).setIfInBounds (r * 164 + q * 41 + m) (.int .i64 (v : Nat)) = memA n (fun r' q' m' => if r' = r ∧ q' = q ∧ m' = m then v else F r' q' m') := by
  apply Array.ext'
  simp only [memA, List.setIfInBounds_toArray]
  apply List.ext_getElem?
  intro i
  rw [List.getElem?_set]
  by_cases hi : i < n * 164
  · by_cases h : r * 164 + q * 41 + m = i
    · have e1 : i / 164 = r := by omega
      have e2 : i / 41 % 4 = q := by omega
      have e3 : i % 41 = m := by omega
      simp [memL, hi, h, e1, e2, e3]
    · have hne : ¬ (i / 164 = r ∧ i / 41 % 4 = q ∧ i % 41 = m) := by omega
      simp [memL, hi, h, hne]
  · have h : r * 164 + q * 41 + m ≠ i := by omega
    simp [memL, hi, h]

/-- An entry of the table that is made. -/
def enT (s : List UInt8) (r q m : Nat) : Nat := endS s (s.length - 1 - r) (decide (q / 2 = 1)) (decide (q % 2 = 1)) m
theorem endS_le (s : List UInt8) : ∀ j h n m, endS s j h n m ≤ 2 ^ j
  | 0, h, n, m => by unfold endS; split <;> decide
  | j + 1, h, n, m => by
    have hb : ∀ b, (if canM s (s.length - 1 - j) h n b = true then shiftF (endS s j n b) h.toNat m else 0) ≤ 2 ^ j := by
      intro b
      split
      · unfold shiftF
        split
        · exact endS_le s j n b _
        · exact Nat.zero_le _
      · exact Nat.zero_le _
    rw [endS, Nat.pow_succ]
    have := hb true
    have := hb false
    omega
theorem enT_le {s : List UInt8} (hs : s.length ≤ 40) (r q m : Nat) : enT s r q m ≤ 1099511627776 :=
  Nat.le_trans (endS_le _ _ _ _ _) (Nat.le_trans (Nat.pow_le_pow_right (by decide) (show s.length - 1 - r ≤ 40 by omega)) (by decide))
/-- What a cell behind the next one adds. -/
def tmT (s : List UInt8) (k : Nat) (h nx b : Bool) (m : Nat) : Nat := if canM s (k + 1) h nx b = true then shiftF (endS s (s.length - 1 - (k + 1)) nx b) h.toNat m else 0
/-- Behind b of the cells behind. -/
def pbT (s : List UInt8) (k : Nat) (h nx : Bool) (b m : Nat) : Nat := (if 1 ≤ b then tmT s k h nx false m else 0) + (if 2 ≤ b then tmT s k h nx true m else 0)
theorem pbT_end {s : List UInt8} {k : Nat} (hk : k + 1 < s.length) (h nx : Bool) (m : Nat) : pbT s k h nx 2 m = endS s (s.length - 1 - k) h nx m := by
  have e : s.length - 1 - k = (s.length - 1 - (k + 1)) + 1 := by omega
  have e2 : s.length - 1 - (s.length - 1 - (k + 1)) = k + 1 := by omega
  rw [e, endS, e2]
  unfold pbT tmT
  simp only [Nat.reduceLeDiff, if_true, Nat.le_refl, show (1 : Nat) ≤ 2 by decide]
  omega
theorem pbT_le {s : List UInt8} (hs : s.length ≤ 40) (k : Nat) (h nx : Bool) (b m : Nat) : pbT s k h nx b m ≤ 2199023255552 := by
  have ht : ∀ b, tmT s k h nx b m ≤ 1099511627776 := by
    intro b
    unfold tmT
    split
    · unfold shiftF
      split
      · exact Nat.le_trans (endS_le _ _ _ _ _) (Nat.le_trans (Nat.pow_le_pow_right (by decide) (show s.length - 1 - (k + 1) ≤ 40 by omega)) (by decide))
      · exact Nat.zero_le _
    · exact Nat.zero_le _
  have := ht true
  have := ht false
  unfold pbT
  split <;> split <;> omega
/-- The table while row k is made: its first Q parts are whole, part Q is R. -/
def stT (s : List UInt8) (k Q : Nat) (R : Nat → Nat) (r q m : Nat) : Nat := if k < r then enT s r q m else if r = k then (if q < Q then enT s r q m else if q = Q then R m else 0) else 0
/-- The table whose rows from c on are whole. -/
def rwT (s : List UInt8) (c r q m : Nat) : Nat := if c ≤ r then enT s r q m else 0
theorem rw_st (s : List UInt8) (n k : Nat) : memA n (rwT s (k + 1)) = memA n (stT s k 0 (fun _ => 0)) := memA_congr fun r q m _ _ _ => by
  unfold rwT stT
  by_cases h : k + 1 ≤ r
  · rw [if_pos h, if_pos (by omega)]
  · rw [if_neg h, if_neg (by omega)]
    by_cases h2 : r = k
    · rw [if_pos h2, if_neg (by omega)]
      split <;> rfl
    · rw [if_neg h2]
theorem st_rw (s : List UInt8) (n k : Nat) (R : Nat → Nat) : memA n (stT s k 4 R) = memA n (rwT s k) := memA_congr fun r q m _ hq _ => by
  unfold rwT stT
  by_cases h : k < r
  · rw [if_pos h, if_pos (by omega)]
  · rw [if_neg h]
    by_cases h2 : r = k
    · rw [if_pos h2, if_pos hq, if_pos (by omega)]
    · rw [if_neg h2, if_neg (by omega)]
/-- A part is done: the next one begins. -/
theorem st_part (s : List UInt8) (n k Q : Nat) (R : Nat → Nat) (hR : ∀ m, m < 41 → R m = enT s k Q m) : memA n (stT s k Q R) = memA n (stT s k (Q + 1) (fun _ => 0)) := memA_congr fun r q m _ _ hm => by
  unfold stT
  by_cases h : k < r
  · rw [if_pos h, if_pos h]
  · rw [if_neg h, if_neg h]
    by_cases h2 : r = k
    · rw [if_pos h2, if_pos h2]
      by_cases h3 : q < Q
      · rw [if_pos h3, if_pos (by omega)]
      · rw [if_neg h3]
        by_cases h4 : q = Q
        · subst h4
          subst h2
          rw [if_pos rfl, if_pos (by omega), hR m hm]
        · rw [if_neg h4, if_neg (by omega)]
          split <;> rfl
    · rw [if_neg h2, if_neg h2]
theorem st_congr (s : List UInt8) (n k Q : Nat) {R R' : Nat → Nat} (hR : ∀ m, m < 41 → R m = R' m) : memA n (stT s k Q R) = memA n (stT s k Q R') := memA_congr fun r q m _ _ hm => by
  unfold stT; rw [hR m hm]
/-- Behind j rounds for one cell behind. -/
def jbT (s : List UInt8) (k : Nat) (h nx : Bool) (b j m : Nat) : Nat := pbT s k h nx b m + (if h.toNat ≤ m ∧ m < j + h.toNat then endS s (s.length - 1 - (k + 1)) nx (decide (b = 1)) (m - h.toNat) else 0)
theorem jbT_start (s : List UInt8) (k : Nat) (h nx : Bool) (b m : Nat) : jbT s k h nx b 0 m = pbT s k h nx b m := by
  unfold jbT; rw [if_neg (by omega), Nat.add_zero]
theorem jbT_end (s : List UInt8) (k : Nat) (h nx : Bool) (b j m : Nat) (hb : b < 2) (hm : m < 41) (hj : 41 ≤ j + h.toNat) (hc : canM s (k + 1) h nx (decide (b = 1)) = true) : jbT s k h nx b j m = pbT s k h nx (b + 1) m := by
  have ht : (if h.toNat ≤ m ∧ m < j + h.toNat then endS s (s.length - 1 - (k + 1)) nx (decide (b = 1)) (m - h.toNat) else 0) = tmT s k h nx (decide (b = 1)) m := by
    unfold tmT shiftF
    rw [if_pos hc]
    by_cases h1 : h.toNat ≤ m
    · rw [if_pos ⟨h1, by omega⟩, if_pos h1]
    · rw [if_neg (by omega), if_neg h1]
  unfold jbT
  rw [ht]
  unfold pbT
  match b, hb with
  | 0, _ => simp
  | 1, _ => simp
theorem pbT_skip (s : List UInt8) (k : Nat) (h nx : Bool) (b m : Nat) (hb : b < 2) (hc : canM s (k + 1) h nx (decide (b = 1)) = false) : pbT s k h nx (b + 1) m = pbT s k h nx b m := by
  unfold pbT tmT
  match b, hb with
  | 0, _ => simp at hc; simp [hc]
  | 1, _ => simp at hc; simp [hc]
end Go.Proofs.Ythlbplmghjaeoaf
