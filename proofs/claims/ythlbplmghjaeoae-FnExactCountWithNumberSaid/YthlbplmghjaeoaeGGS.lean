/- GS, GT, laid as one text. -/
import Derived.Test.YthlbplmghjaeoaeGR

/- Boards with a number in a cell, counted: a product of two ways to choose. -/
namespace Go.Proofs.Ythlbplmghjaeoae
open Go.RowKit

/-- Mines of the cells of a class. -/
def clK (cl : Nat → Nat) (k : Nat) (u : List UInt8) : Nat := (List.range u.length).countP fun i => decide (cl i = k) && decide (u.getD i 0 = 42)
def clN2 (cl : Nat → Nat) (k n : Nat) : Nat := (List.range n).countP fun i => decide (cl i = k)
theorem clK_snoc (cl : Nat → Nat) (k : Nat) (u : List UInt8) (s : UInt8) : clK cl k (u ++ [s]) = clK cl k u + if cl u.length = k ∧ s = 42 then 1 else 0 := by
  unfold clK
  rw [List.length_append, List.length_singleton, List.range_succ, List.countP_append, List.countP_cons, List.countP_nil, Nat.zero_add]
  congr 1
  · refine List.countP_congr fun i hi => ?_
    have hi := List.mem_range.1 hi
    have e : (u ++ [s]).getD i 0 = u.getD i 0 := by simp [List.getD, List.getElem?_append_left hi]
    rw [e]
  · have e : (u ++ [s]).getD u.length 0 = s := by simp [List.getD]
    rw [e]
    simp
theorem clN2_succ (cl : Nat → Nat) (k n : Nat) : clN2 cl k (n + 1) = clN2 cl k n + if cl n = k then 1 else 0 := by
  unfold clN2
  rw [List.range_succ, List.countP_append, List.countP_cons, List.countP_nil, Nat.zero_add]
  simp
theorem flat_two (P : List UInt8 → Bool) : ∀ B : List (List UInt8), (B.flatMap fun u => [u ++ [42], u ++ [46]]).countP P = B.countP (fun u => P (u ++ [42])) + B.countP (fun u => P (u ++ [46]))
  | [] => rfl
  | u :: B => by
    rw [List.flatMap_cons, List.countP_append, flat_two P B, List.countP_cons, List.countP_cons, List.countP_cons, List.countP_cons, List.countP_nil]
    omega
def Bs (n : Nat) : List (List UInt8) := (List.range (2 ^ n)).map (ctB n)
theorem Bs_len {n : Nat} {u : List UInt8} (h : u ∈ Bs n) : u.length = n := by
  obtain ⟨m, _, rfl⟩ := List.mem_map.1 h
  exact ctB_length n m
def wy (cl : Nat → Nat) (n d e : Nat) : Nat := (Bs n).countP fun u => decide (clK cl 0 u = d) && (decide (clK cl 1 u = e) && decide (clK cl 2 u = 0))
theorem wy_binom (cl : Nat → Nat) (h3 : ∀ i, cl i ≤ 2) : ∀ n d e, wy cl n d e = binom (clN2 cl 0 n) d * binom (clN2 cl 1 n) e
  | 0, d, e => by
    have h0 : ∀ k, clN2 cl k 0 = 0 := fun _ => rfl
    rw [h0, h0]
    show ([ctB 0 0].countP _) = _
    have h1 : ∀ k, clK cl k (ctB 0 0) = 0 := fun _ => rfl
    rw [List.countP_cons, List.countP_nil, h1, h1, h1]
    cases d <;> cases e <;> simp [binom]
  | n + 1, d, e => by
    have ih := wy_binom cl h3 n
    have hB : Bs (n + 1) = (Bs n).flatMap fun u => [u ++ [42], u ++ [46]] := bn_two n
    rw [wy, hB, flat_two, clN2_succ, clN2_succ]
    have hf : (Bs n).countP (fun u => decide (clK cl 0 (u ++ [46]) = d) && (decide (clK cl 1 (u ++ [46]) = e) && decide (clK cl 2 (u ++ [46]) = 0))) = wy cl n d e := by
      refine List.countP_congr fun u _ => ?_
      rw [clK_snoc, clK_snoc, clK_snoc]
      simp
    rw [hf]
    have hm : ∀ (Q : Nat → Nat → Nat → Bool), (Bs n).countP (fun u => Q (clK cl 0 (u ++ [42])) (clK cl 1 (u ++ [42])) (clK cl 2 (u ++ [42]))) = (Bs n).countP (fun u => Q (clK cl 0 u + if cl n = 0 then 1 else 0) (clK cl 1 u + if cl n = 1 then 1 else 0) (clK cl 2 u + if cl n = 2 then 1 else 0)) := fun Q => by
      refine List.countP_congr fun u hu => ?_
      rw [clK_snoc, clK_snoc, clK_snoc, Bs_len hu]
      simp
    rw [hm (fun a b c => decide (a = d) && (decide (b = e) && decide (c = 0)))]
    have hc := h3 n
    rcases (show cl n = 0 ∨ cl n = 1 ∨ cl n = 2 by omega) with q | q | q
    · rw [q]
      simp only [if_true, Nat.add_zero, show (0 : Nat) ≠ 1 by decide, show (0 : Nat) ≠ 2 by decide, if_false]
      cases d with
      | zero =>
        rw [List.countP_eq_zero.2 (fun u _ => by simp), Nat.zero_add, ih]
        cases clN2 cl 0 n <;> rfl
      | succ d =>
        have h1 : (Bs n).countP (fun u => decide (clK cl 0 u + 1 = d + 1) && (decide (clK cl 1 u = e) && decide (clK cl 2 u = 0))) = wy cl n d e := List.countP_congr fun u _ => by simp
        rw [h1, ih, ih, ← Nat.add_mul]; rfl
    · rw [q]
      simp only [if_true, Nat.add_zero, show (1 : Nat) ≠ 0 by decide, show (1 : Nat) ≠ 2 by decide, if_false]
      cases e with
      | zero =>
        rw [List.countP_eq_zero.2 (fun u _ => by simp), Nat.zero_add, ih]
        cases clN2 cl 1 n <;> rfl
      | succ e =>
        have h1 : (Bs n).countP (fun u => decide (clK cl 0 u = d) && (decide (clK cl 1 u + 1 = e + 1) && decide (clK cl 2 u = 0))) = wy cl n d e := List.countP_congr fun u _ => by simp
        rw [h1, ih, ih, ← Nat.mul_add]; rfl
    · rw [q]
      simp only [if_true, Nat.add_zero, show (2 : Nat) ≠ 0 by decide, show (2 : Nat) ≠ 1 by decide, if_false]
      rw [List.countP_eq_zero.2 (fun u _ => by simp), Nat.zero_add, ih]
end Go.Proofs.Ythlbplmghjaeoae

/- Boards with a number in a cell: what the program counts is what the model computes. -/
namespace Go.Proofs.Ythlbplmghjaeoae
open Go.RowKit

theorem nearGo_filter (W c : Nat) : ∀ (m k : Nat), nearGo W c k m = (List.range' k m).filter fun i => nbW W c i
  | 0, _ => rfl
  | m + 1, k => by
    rw [nearGo, List.range'_succ, List.filter_cons, nearGo_filter W c m (k + 1)]
theorem nearM_filter (W n c : Nat) : nearM W n c = (List.range n).filter fun i => nbW W c i := by
  rw [nearM, nearGo_filter, List.range_eq_range']
theorem countAt_countP (u : List UInt8) : ∀ l : List Nat, countAt u l = l.countP fun o => decide (u.getD o 0 = 42)
  | [] => rfl
  | o :: r => by
    rw [countAt, List.countP_cons, countAt_countP u r]
    by_cases h : u.getD o 0 = 42
    · rw [if_pos h, if_pos (by simpa using h)]
    · rw [if_neg h, if_neg (by simpa using h)]; rfl
/-- A cell's class: beside c, another one, c itself. -/
def clc (W c i : Nat) : Nat := if nbW W c i = true then 0 else if i = c then 2 else 1
theorem clc_le (W c i : Nat) : clc W c i ≤ 2 := by unfold clc; split <;> (try split) <;> omega
theorem clc_near (W n c : Nat) : clN2 (clc W c) 0 n = (nearM W n c).length := by
  rw [nearM_filter, clN2, ← List.countP_eq_length_filter]
  refine List.countP_congr fun i _ => ?_
  unfold clc
  by_cases h : nbW W c i = true
  · simp [h]
  · rw [if_neg h]
    split <;> simp_all
theorem clc_mines (W n c : Nat) (u : List UInt8) (hu : u.length = n) : clK (clc W c) 0 u = countAt u (nearM W n c) := by
  rw [nearM_filter, countAt_countP, List.countP_filter, clK, hu]
  refine List.countP_congr fun i _ => ?_
  unfold clc
  by_cases h : nbW W c i = true
  · simp [h]
  · rw [if_neg h]
    split <;> simp_all
theorem three (l : List Nat) (cl : Nat → Nat) (h3 : ∀ i, cl i ≤ 2) (p : Nat → Bool) : (l.countP fun i => decide (cl i = 0) && p i) + (l.countP fun i => decide (cl i = 1) && p i) + (l.countP fun i => decide (cl i = 2) && p i) = l.countP p := by
  induction l with
  | nil => rfl
  | cons i r ih =>
    rw [List.countP_cons, List.countP_cons, List.countP_cons, List.countP_cons]
    have := h3 i
    rcases (show cl i = 0 ∨ cl i = 1 ∨ cl i = 2 by omega) with q | q | q <;> rw [q] <;> cases p i <;> simp <;> omega
theorem places_range (u : List UInt8) : (places 42 u).length = (List.range u.length).countP fun i => decide (u.getD i 0 = 42) := by
  rw [places, places_count]
  have e : u = (List.range u.length).map fun i => u.getD i 0 := by
    refine List.ext_getElem (by simp) fun i h1 h2 => ?_
    simp [List.getD, h1]
  conv => lhs; rw [e]
  rw [List.countP_map]; rfl
theorem clK_sum (W c : Nat) (u : List UInt8) : clK (clc W c) 0 u + clK (clc W c) 1 u + clK (clc W c) 2 u = (places 42 u).length := by
  rw [places_range]
  exact three _ _ (clc_le W c) _
theorem one_range : ∀ n c, c < n → (List.range n).countP (fun i => decide (i = c)) = 1
  | 0, c, h => by omega
  | n + 1, c, h => by
    rw [List.range_succ, List.countP_append, List.countP_cons, List.countP_nil]
    by_cases q : c = n
    · subst q
      rw [List.countP_eq_zero.2 (fun i hi => by have := List.mem_range.1 hi; simp; omega)]
      simp
    · rw [one_range n c (by omega), if_neg (by simp; omega)]
theorem clc_self (W n c : Nat) (hc : c < n) (hself : nbW W c c = false) : clN2 (clc W c) 2 n = 1 := by
  have h : ∀ i, decide (clc W c i = 2) = decide (i = c) := fun i => by
    unfold clc
    by_cases q : i = c
    · subst q; rw [hself]; simp
    · simp [q]; split <;> simp
  unfold clN2
  rw [show (fun i => decide (clc W c i = 2)) = fun i => decide (i = c) from funext h]
  exact one_range n c hc
theorem clK_self (W c : Nat) (u : List UInt8) (hc : c < u.length) (hself : nbW W c c = false) : clK (clc W c) 2 u = if u.getD c 0 = 42 then 1 else 0 := by
  have h : ∀ i, (decide (clc W c i = 2) && decide (u.getD i 0 = 42)) = (decide (i = c) && decide (u.getD c 0 = 42)) := fun i => by
    unfold clc
    by_cases q : i = c
    · subst q; rw [hself]; simp
    · simp [q]; split <;> simp
  unfold clK
  rw [show (fun i => decide (clc W c i = 2) && decide (u.getD i 0 = 42)) = fun i => decide (i = c) && decide (u.getD c 0 = 42) from funext h]
  by_cases q : u.getD c 0 = 42
  · rw [if_pos q]
    rw [← one_range u.length c hc]
    exact List.countP_congr fun i _ => by rw [q]; simp
  · rw [if_neg q]
    exact List.countP_eq_zero.2 fun i _ => by
      simp only [Bool.and_eq_true, decide_eq_true_eq]
      exact fun h => q h.2
theorem cn_count (W n c m d : Nat) (hc : c < n) (hself : nbW W c c = false) (hdm : d ≤ m) :
    ((allM n m).filter fun u => decide (u.getD c 0 = 46) && decide (numM u W c = d)).length = binom (nearM W n c).length d * binom (n - 1 - (nearM W n c).length) (m - d) := by
  have h1 : clN2 (clc W c) 1 n = n - 1 - (nearM W n c).length := by
    have hs := three (List.range n) (clc W c) (clc_le W c) (fun _ => true)
    have h0 := clc_near W n c
    have h2 := clc_self W n c hc hself
    simp only [Bool.and_true, List.countP_true, List.length_range] at hs
    unfold clN2 at h0 h2 ⊢
    omega
  rw [← h1, ← clc_near, ← wy_binom (clc W c) (clc_le W c) n d (m - d), allM_mines n m (by omega), List.filter_filter, ← List.countP_eq_length_filter, wy]
  have e : allM n (-1) = Bs n := by
    rw [allM, allK]
    exact List.filter_eq_self.2 fun c _ => by simp [mnB]
  rw [e]
  refine List.countP_congr fun u hu => ?_
  have hl := Bs_len hu
  have hb : Brd2 u := by
    obtain ⟨k, _, rfl⟩ := List.mem_map.1 hu
    exact ctB_brd n k
  have s0 := clc_mines W n c u hl
  have s2 := clK_self W c u (by omega) hself
  have ss := clK_sum W c u
  have hn : numM u W c = countAt u (nearM W n c) := by unfold numM; rw [hl]
  have hcell : u.getD c 0 = 46 ∨ u.getD c 0 = 42 := by
    have : u.getD c 0 = u[c]'(by omega) := by simp [List.getD, show c < u.length by omega]
    rw [this]
    exact hb _ (List.getElem_mem _)
  rw [hn, ← s0]
  simp only [Bool.and_eq_true, decide_eq_true_eq]
  rcases hcell with q | q
  · rw [q] at s2
    rw [if_neg (by decide)] at s2
    rw [q]
    constructor
    · rintro ⟨⟨_, g1⟩, g2⟩
      exact ⟨g1, by omega, s2⟩
    · rintro ⟨g1, g2, _⟩
      exact ⟨⟨rfl, g1⟩, by omega⟩
  · rw [q] at s2
    rw [if_pos rfl] at s2
    rw [q]
    constructor
    · rintro ⟨⟨g0, _⟩, _⟩
      exact absurd g0 (by decide)
    · rintro ⟨_, _, g3⟩
      omega
end Go.Proofs.Ythlbplmghjaeoae
