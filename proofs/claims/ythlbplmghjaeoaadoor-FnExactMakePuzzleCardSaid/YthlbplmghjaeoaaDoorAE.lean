/- Puzzles: what clues tell of a board, the boards of a size, solutions. -/
import Derived.Test.YthlbplmghjaeoaaDoorA2
import Derived.Test.YthlbplmghjaeoaaDoorKS
import Derived.Outline
namespace Go.Proofs.YthlbplmghjaeoaaDoor
open Go.RowKit

/-- Has a cell a mine? Does a clue of a kind count it? -/
def isM (u : List UInt8) (i : Nat) : Bool := u.getD i 0 == 42
def selC (W : Nat) (k a : Int) (i : Nat) : Bool := (k == 0 && (i : Int) == a) || k == 1 || (k == 3 && ((i / W : Nat) : Int) == a) || (k == 4 && ((i % W : Nat) : Int) == a)
def cntC (W : Nat) (k a : Int) (u : List UInt8) (n : Nat) : Nat := (List.range n).countP fun i => isM u i && selC W k a i
theorem cntC_snoc (W : Nat) (k a : Int) (u : List UInt8) (n : Nat) : cntC W k a u (n + 1) = cntC W k a u n + if (isM u n && selC W k a n) = true then 1 else 0 := by
  unfold cntC
  rw [List.range_succ, List.countP_append]
  simp [List.countP_cons]
theorem cntC_le (W : Nat) (k a : Int) (u : List UInt8) (n : Nat) : cntC W k a u n ≤ n := Nat.le_trans List.countP_le_length (by simp)
/-- What a clue of a kind tells of a board. -/
def vlC (W : Nat) (u : List UInt8) (k a : Int) : Nat := if k = 2 then numM u W a.toNat else if k = 5 then sumGo u W 0 u.length else cntC W k a u u.length
/-- The clue of a kind that a board fits. -/
def clOf (W : Nat) (u : List UInt8) (k a : Int) : Clu := if k = 1 ∨ k = 5 then ⟨k, (vlC W u k 0 : Nat), 0⟩ else ⟨k, a, (vlC W u k a : Nat)⟩
/-- Does a board fit a clue? -/
def fitC (W : Nat) (u : List UInt8) (c : Clu) : Bool := if c.k = 1 ∨ c.k = 5 then ((vlC W u c.k 0 : Nat) : Int) == c.a else ((vlC W u c.k c.a : Nat) : Int) == c.b
theorem clu_zero {W H : Nat} {c : Clu} (h : cluB W H c = true) (hk : c.k = 1 ∨ c.k = 5) : c.b = 0 := by
  unfold cluB limC at h
  rcases hk with e | e
  · rw [e] at h
    simp [inB] at h
    omega
  · rw [e] at h
    simp [inB] at h
    omega
theorem clOf_fit {W H : Nat} {u : List UInt8} {c : Clu} (h : cluB W H c = true) : (clOf W u c.k c.a = c) ↔ fitC W u c = true := by
  unfold clOf fitC
  by_cases hk : c.k = 1 ∨ c.k = 5
  · rw [if_pos hk, if_pos hk, beq_iff_eq]
    have hb := clu_zero h hk
    constructor
    · intro e; rw [← e]
    · intro e
      obtain ⟨k, a, b⟩ := c
      simp only at e hb ⊢
      rw [e, hb]
  · rw [if_neg hk, if_neg hk, beq_iff_eq]
    constructor
    · intro e; rw [← e]
    · intro e
      obtain ⟨k, a, b⟩ := c
      simp only at e ⊢
      rw [e]
/-- How many mines are in so many cells, from a first one on, step by step. -/
def mfN (u : List UInt8) (first step count : Nat) : Nat := (List.range count).countP fun i => isM u (first + i * step)
theorem mfN_le (u : List UInt8) (first step count : Nat) : mfN u first step count ≤ count := Nat.le_trans List.countP_le_length (by simp)
theorem mfN_snoc (u : List UInt8) (first step count : Nat) : mfN u first step (count + 1) = mfN u first step count + if isM u (first + count * step) = true then 1 else 0 := by
  unfold mfN
  rw [List.range_succ, List.countP_append]
  simp [List.countP_cons]
theorem row_list : ∀ W : Nat, W < 10 → ∀ H : Nat, H < 10 → W * H ≤ 9 → ∀ a : Nat, a < H → (List.range (W * H)).filter (fun i => i / W == a) = (List.range W).map (fun i => a * W + i * 1) := by decide +kernel
theorem col_list : ∀ W : Nat, W < 10 → ∀ H : Nat, H < 10 → W * H ≤ 9 → ∀ a : Nat, a < W → (List.range (W * H)).filter (fun i => i % W == a) = (List.range H).map (fun i => a + i * W) := by decide +kernel
theorem cell_list : ∀ n : Nat, n < 10 → ∀ a : Nat, a < n → (List.range n).filter (fun i => i == a) = (List.range 1).map (fun i => a + i * 1) := by decide +kernel
theorem cnt_of {u : List UInt8} {n : Nat} {q : Nat → Bool} {W : Nat} {k a : Int} {f s c : Nat} (hq : ∀ i, selC W k a i = q i) (hl : (List.range n).filter q = (List.range c).map (fun i => f + i * s)) : cntC W k a u n = mfN u f s c := by
  unfold cntC mfN
  have e : (fun i => isM u i && selC W k a i) = fun i => isM u i && q i := by funext i; rw [hq]
  rw [e, ← List.countP_filter, hl, List.countP_map]
  rfl
theorem cnt_cell {W n a : Nat} {u : List UInt8} (hn : n < 10) (ha : a < n) : cntC W 0 a u n = mfN u a 1 1 :=
  cnt_of (q := fun i => i == a) (fun i => by simp [selC]; rw [Bool.eq_iff_iff]; simp; omega) (cell_list n hn a ha)
theorem cnt_row {W H a : Nat} {u : List UInt8} (hW : W ≤ 8) (hH : H ≤ 8) (h9 : W * H ≤ 9) (ha : a < H) : cntC W 3 a u (W * H) = mfN u (a * W) 1 W :=
  cnt_of (q := fun i => i / W == a) (fun i => by simp [selC]; rw [Bool.eq_iff_iff]; simp; omega) (row_list W (by omega) H (by omega) h9 a ha)
theorem cnt_col {W H a : Nat} {u : List UInt8} (hW : W ≤ 8) (hH : H ≤ 8) (h9 : W * H ≤ 9) (ha : a < W) : cntC W 4 a u (W * H) = mfN u a W H :=
  cnt_of (q := fun i => i % W == a) (fun i => by simp [selC]; rw [Bool.eq_iff_iff]; simp; omega) (col_list W (by omega) H (by omega) h9 a ha)
theorem cnt_all {W n : Nat} {a : Int} {u : List UInt8} : cntC W 1 a u n = (List.range n).countP (isM u) := by
  unfold cntC
  congr 1
  funext i
  simp [selC]
theorem pre_mnC (W n : Nat) (u : List UInt8) (hu : u.length = n) (hn : n ≤ 12) : (preB W n u).mns = (List.range n).countP (isM u) := by
  have step : ∀ k, k ≤ n → (preB W n u).mnK k = (List.range k).countP (isM u) := by
    intro k
    induction k with
    | zero => intro _; rfl
    | succ k ih =>
      intro hk
      rw [LB.mnK, ih (by omega), is42, pre_at W n u k (by omega), List.range_succ, List.countP_append]
      have e : isM u k = decide (u.getD k 0 = 42) := by
        unfold isM
        rw [Bool.eq_iff_iff, beq_iff_eq, decide_eq_true_eq]
      simp [List.countP_cons, e]
  have rest : ∀ d, n + d ≤ 12 → (preB W n u).mnK (n + d) = (preB W n u).mnK n := by
    intro d
    induction d with
    | zero => intro _; rfl
    | succ d ih =>
      intro hd
      rw [← Nat.add_assoc, LB.mnK, ih (by omega), pre_at W n u _ (by omega)]
      have e : u.getD (n + d) 0 = 0 := by simp [List.getD, hu]
      rw [e]
      simp
  have := rest (12 - n) (by omega)
  rw [show n + (12 - n) = 12 by omega] at this
  rw [LB.mns, this, step n (Nat.le_refl _)]
/-- All boards of so many cells, those with mines first. -/
def seqs : Nat → List (List UInt8)
  | 0 => [[]]
  | d + 1 => (seqs d).map (42 :: ·) ++ (seqs d).map (46 :: ·)
theorem seqs_len : ∀ d, ∀ u ∈ seqs d, u.length = d
  | 0, u, h => by simp [seqs] at h; rw [h]; rfl
  | d + 1, u, h => by
    rw [seqs, List.mem_append, List.mem_map, List.mem_map] at h
    rcases h with ⟨v, hv, rfl⟩ | ⟨v, hv, rfl⟩ <;> simp [seqs_len d v hv]
theorem seqs_brd : ∀ d, ∀ u ∈ seqs d, Brd2 u
  | 0, u, h => by simp [seqs] at h; subst h; intro c hc; simp at hc
  | d + 1, u, h => by
    rw [seqs, List.mem_append, List.mem_map, List.mem_map] at h
    rcases h with ⟨v, hv, rfl⟩ | ⟨v, hv, rfl⟩
    · intro c hc
      rcases List.mem_cons.1 hc with rfl | hc
      · exact .inr rfl
      · exact seqs_brd d v hv c hc
    · intro c hc
      rcases List.mem_cons.1 hc with rfl | hc
      · exact .inl rfl
      · exact seqs_brd d v hv c hc
theorem seqs_length (d : Nat) : (seqs d).length = 2 ^ d := by
  induction d with
  | zero => rfl
  | succ d ih => rw [seqs, List.length_append, List.length_map, List.length_map, ih, Nat.pow_succ]; omega
theorem seqs_ct : ∀ n : Nat, n < 10 → seqs n = (List.range (2 ^ n)).map (ctB n) := by decide +kernel
theorem allM_seqs (n : Nat) (hn : n ≤ 9) : allM n (-1) = seqs n := by
  rw [seqs_ct n (by omega), allM, allK]
  exact List.filter_eq_self.2 fun u _ => by simp [mnB]
/-- The solutions of clues, as rows of signs. -/
def solC (W n : Nat) (cs : List Clu) : List (List UInt8) := (seqs n).filter fun u => cs.all (fitC W u)
theorem solC_le (W n : Nat) (hn : n ≤ 9) (cs : List Clu) : (solC W n cs).length ≤ 512 := by
  refine Nat.le_trans (List.length_filter_le _ _) ?_
  rw [seqs_length]
  exact Nat.pow_le_pow_right (by decide) hn
theorem listGo_sol (W n : Nat) (hn : n ≤ 9) (cs : List Clu) (P : LB → Bool) (hP : ∀ u ∈ seqs n, P (preB W n u) = cs.all (fitC W u)) : (listGo W n n).filter P = (solC W n cs).map (preB W n) := by
  rw [listGo_all W n (by omega), allM_seqs n hn, List.filter_map, solC]
  congr 1
  exact List.filter_congr fun u hu => hP u hu
end Go.Proofs.YthlbplmghjaeoaaDoor
