/- How many lists of numbers strips have: counted by codes. -/
import Derived.Test.YthlbplmghjaeoaeME
namespace Go.Proofs.Ythlbplmghjaeoae
open Go.RowKit

theorem ddp_nodupGo {α : Type} [DecidableEq α] : ∀ (l a : List α), a.Nodup → (l.foldl (fun a x => if x ∈ a then a else a ++ [x]) a).Nodup
  | [], _, h => h
  | y :: l, a, h => by
    rw [List.foldl_cons]
    refine ddp_nodupGo l _ ?_
    by_cases q : y ∈ a
    · rw [if_pos q]; exact h
    · rw [if_neg q, List.nodup_append]
      exact ⟨h, by simp, fun x hx y' hy e => q (by rw [List.mem_singleton] at hy; rw [← hy, ← e]; exact hx)⟩
theorem ddp_nodup {α : Type} [DecidableEq α] (l : List α) : (ddp l).Nodup := ddp_nodupGo l [] List.nodup_nil
theorem ddp_same {α : Type} [DecidableEq α] {l l' : List α} (h : ∀ x, x ∈ l ↔ x ∈ l') : (ddp l).length = (ddp l').length :=
  ((List.perm_ext_iff_of_nodup (ddp_nodup l) (ddp_nodup l')).2 fun x => by rw [ddp_mem, ddp_mem, h]).length_eq
theorem ddp_img {α β γ : Type} [DecidableEq β] [DecidableEq γ] (F : α → β) (G : α → γ) (A : List α) (h : ∀ a, a ∈ A → ∀ b, b ∈ A → (F a = F b ↔ G a = G b)) : (ddp (A.map F)).length = (ddp (A.map G)).length := by
  have e : ∀ k, k ≤ A.length → (ddp ((A.take k).map F)).length = (ddp ((A.take k).map G)).length := by
    intro k
    induction k with
    | zero => intro _; rfl
    | succ k ih =>
      intro hk
      have hl : k < A.length := hk
      rw [List.take_succ_eq_append_getElem hl, List.map_append, List.map_append, List.map_singleton, List.map_singleton, ddp_snoc, ddp_snoc]
      have hm : F A[k] ∈ ddp ((A.take k).map F) ↔ G A[k] ∈ ddp ((A.take k).map G) := by
        rw [ddp_mem, ddp_mem, List.mem_map, List.mem_map]
        constructor
        · rintro ⟨a, ha, he⟩
          exact ⟨a, ha, (h a (List.mem_of_mem_take ha) _ (List.getElem_mem hl)).1 he⟩
        · rintro ⟨a, ha, he⟩
          exact ⟨a, ha, (h a (List.mem_of_mem_take ha) _ (List.getElem_mem hl)).2 he⟩
      by_cases q : F A[k] ∈ ddp ((A.take k).map F)
      · rw [if_pos q, if_pos (hm.1 q)]; exact ih (by omega)
      · rw [if_neg q, if_neg (fun x => q (hm.2 x)), List.length_append, List.length_append, ih (by omega)]; rfl
  have := e A.length (Nat.le_refl _)
  rwa [List.take_length] at this

/-- A number's digits to the base 3. -/
def codeGo (d : Nat → Nat) : Nat → Nat
  | 0 => 0
  | k + 1 => 3 * codeGo d k + d k
theorem codeGo_eq (d d' : Nat → Nat) (n : Nat) (h : ∀ k, k < n → d k ≤ 2 ∧ d' k ≤ 2) : codeGo d n = codeGo d' n ↔ ∀ k, k < n → d k = d' k := by
  induction n with
  | zero => exact ⟨fun _ k hk => absurd hk (Nat.not_lt_zero _), fun _ => rfl⟩
  | succ n ih =>
    have hn := h n (Nat.lt_succ_self n)
    have ih := ih fun k hk => h k (by omega)
    rw [codeGo, codeGo]
    constructor
    · intro e k hk
      have h1 : codeGo d n = codeGo d' n ∧ d n = d' n := by omega
      by_cases q : k = n
      · rw [q]; exact h1.2
      · exact ih.1 h1.1 k (by omega)
    · intro e
      have h1 := ih.2 fun k hk => e k (by omega)
      have h2 := e n (Nat.lt_succ_self n)
      omega
theorem codeGo_le (d : Nat → Nat) (n : Nat) (h : ∀ k, k < n → d k ≤ 2) : codeGo d n + 1 ≤ 3 ^ n := by
  induction n with
  | zero => simp [codeGo]
  | succ n ih =>
    have h1 := ih fun k hk => h k (by omega)
    have h2 := h n (Nat.lt_succ_self n)
    rw [codeGo, Nat.pow_succ]
    omega
/-- The number of a cell of the strip of a number's bits. -/
def clD (n b k : Nat) : Nat := (if 0 < k then (b.testBit (k - 1)).toNat else 0) + (if k + 1 < n then (b.testBit (k + 1)).toNat else 0)
theorem clD_le (n b k : Nat) : clD n b k ≤ 2 := by
  have h1 := Bool.toNat_le (b.testBit (k - 1))
  have h2 := Bool.toNat_le (b.testBit (k + 1))
  unfold clD
  split <;> split <;> omega
/-- A strip's code, all codes, how many. -/
def clC (n b : Nat) : Nat := codeGo (clD n b) n
def clN (n : Nat) : Nat := (ddp ((List.range (2 ^ n)).map (clC n))).length
def clV (c : Int) : Nat := if inB c 1 12 = true then clN c.toNat else 0

set_option maxRecDepth 100000 in
theorem near_row : ∀ n : Nat, n < 13 → ∀ i : Nat, i < n → nearM n n i = (if 0 < i then [i - 1] else []) ++ (if i + 1 < n then [i + 1] else []) := by decide +kernel
set_option maxRecDepth 100000 in
theorem near_rsym : ∀ n : Nat, n < 13 → ∀ i : Nat, i < n → ∀ j : Nat, j < n → (nearM n n j).count i = (nearM n n i).count j := by decide +kernel
theorem row_num (n : Nat) (hn : n ≤ 12) (u : List UInt8) (hu : u.length = n) (i : Nat) (hi : i < n) : numW n n u i = countAt u (nearM n n i) := by
  unfold numW
  rw [countAt_sum]
  exact sumW_congr u 0 fun j _ h2 => near_rsym n (by omega) i hi j (by omega)
theorem row_out (n : Nat) (u : List UInt8) (i : Nat) (hi : n ≤ i) : numW n n u i = 0 := by
  unfold numW
  rw [sumW_congr (g := fun _ => 0) u 0 fun j _ _ => ?_, sumW_zero]
  exact List.count_eq_zero.2 fun h => by have := nearM_lt n n j i h; omega
theorem ctB_bit (n b o : Nat) (hb : b < 2 ^ n) (ho : o < n) : (ctB n (2 ^ n - (b + 1))).getD o 0 = 42 ↔ b.testBit (n - 1 - o) = true := by
  have e : (ctB n (2 ^ n - (b + 1))).getD o 0 = if (2 ^ n - (b + 1)).testBit (n - 1 - o) = true then 46 else 42 := by
    simp [ctB, List.getD, ho]
  rw [e, Nat.testBit_two_pow_sub_succ hb, decide_eq_true (show n - 1 - o < n by omega)]
  cases b.testBit (n - 1 - o) <;> simp
theorem row_bits (n : Nat) (hn : n ≤ 12) (b : Nat) (hb : b < 2 ^ n) (i : Nat) (hi : i < n) : numW n n (ctB n (2 ^ n - (b + 1))) i = clD n b (n - 1 - i) := by
  rw [row_num n hn _ (ctB_length _ _) i hi, near_row n (by omega) i hi]
  have h1 : ∀ o, o < n → ∀ r, countAt (ctB n (2 ^ n - (b + 1))) (o :: r) = (b.testBit (n - 1 - o)).toNat + countAt (ctB n (2 ^ n - (b + 1))) r := by
    intro o ho r
    rw [countAt]
    have := ctB_bit n b o hb ho
    cases q : b.testBit (n - 1 - o)
    · rw [if_neg (fun x => by rw [this.1 x] at q; cases q)]; simp
    · rw [if_pos (this.2 q)]; simp; omega
  have h0 : countAt (ctB n (2 ^ n - (b + 1))) [] = 0 := rfl
  unfold clD
  by_cases a1 : 0 < i
  · by_cases a2 : i + 1 < n
    · rw [if_pos a1, if_pos a2, if_pos (by omega), if_pos (by omega), List.singleton_append, h1 _ (by omega), h1 _ (by omega), h0, show n - 1 - (i - 1) = n - 1 - i + 1 by omega, show n - 1 - (i + 1) = n - 1 - i - 1 by omega]
      omega
    · rw [if_pos a1, if_neg a2, if_neg (by omega), if_pos (by omega), List.append_nil, h1 _ (by omega), h0, show n - 1 - (i - 1) = n - 1 - i + 1 by omega]
      omega
  · by_cases a2 : i + 1 < n
    · rw [if_neg a1, if_pos a2, if_pos (by omega), if_neg (by omega), List.nil_append, h1 _ (by omega), h0, show n - 1 - (i + 1) = n - 1 - i - 1 by omega]
    · rw [if_neg a1, if_neg a2, if_neg (by omega), if_neg (by omega), List.nil_append, h0]
theorem ofNat_inj2 {a b : Nat} (ha : a ≤ 2) (hb : b ≤ 2) (h : UInt8.ofNat a = UInt8.ofNat b) : a = b := by
  have h1 := congrArg UInt8.toNat h
  simp at h1
  omega
theorem preP_nums (W n : Nat) (u : List UInt8) : (preP W n u).drop 12 = (List.range 12).map fun i => UInt8.ofNat (numW W n u i) := by
  unfold preP
  rw [List.drop_left' (by simp)]
theorem nums_code (n : Nat) (hn : n ≤ 12) (b b' : Nat) (hb : b < 2 ^ n) (hb' : b' < 2 ^ n) : (preB n n (ctB n (2 ^ n - (b + 1)))).1.drop 12 = (preB n n (ctB n (2 ^ n - (b' + 1)))).1.drop 12 ↔ clC n b = clC n b' := by
  rw [clC, clC, codeGo_eq _ _ n fun k _ => ⟨clD_le n b k, clD_le n b' k⟩]
  show (preP n n _).drop 12 = (preP n n _).drop 12 ↔ _
  rw [preP_nums, preP_nums]
  constructor
  · intro h k hk
    have h1 := congrArg (fun l => l.getD (n - 1 - k) 0) h
    have h12 : n - 1 - k < 12 := by omega
    simp [List.getD, h12] at h1
    rw [row_bits n hn b hb (n - 1 - k) (by omega), row_bits n hn b' hb' (n - 1 - k) (by omega), show n - 1 - (n - 1 - k) = k by omega] at h1
    exact ofNat_inj2 (clD_le n b k) (clD_le n b' k) h1
  · intro h
    refine List.map_congr_left fun i hi => ?_
    congr 1
    by_cases q : i < n
    · rw [row_bits n hn b hb i q, row_bits n hn b' hb' i q, h _ (by omega)]
    · rw [row_out n _ i (by omega), row_out n _ i (by omega)]
theorem lists_eq (n : Nat) (hn : n ≤ 12) : (ddp (numsL (listGo n n n))).length = clN n := by
  rw [listGo_pre n n n hn, numsL, List.map_map]
  have hs : ∀ x, x ∈ (List.range (2 ^ n)).map ((fun x : LB => x.1.drop 12) ∘ fun m => preB n n (ctB n m)) ↔ x ∈ (List.range (2 ^ n)).map fun b => (preB n n (ctB n (2 ^ n - (b + 1)))).1.drop 12 := by
    intro x
    rw [List.mem_map, List.mem_map]
    constructor
    · rintro ⟨m, hm, rfl⟩
      have hm := List.mem_range.1 hm
      refine ⟨2 ^ n - (m + 1), List.mem_range.2 (by omega), ?_⟩
      rw [show 2 ^ n - (2 ^ n - (m + 1) + 1) = m by omega]; rfl
    · rintro ⟨b, hb, rfl⟩
      have hb := List.mem_range.1 hb
      exact ⟨2 ^ n - (b + 1), List.mem_range.2 (by omega), rfl⟩
  rw [ddp_same hs, clN]
  exact ddp_img (β := List UInt8) (γ := Nat) _ (clC n) _ fun b hb b' hb' => nums_code n hn b b' (List.mem_range.1 hb) (List.mem_range.1 hb')
end Go.Proofs.Ythlbplmghjaeoae
