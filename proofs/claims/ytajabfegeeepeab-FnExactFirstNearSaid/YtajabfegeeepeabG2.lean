/- Stable sorts: plain lemmas on sorted blocks. -/
import Derived.Test.YtajabfegeeepeabG1
namespace Go.Proofs.Ytajabfegeeepeab
open Go.Sort

section
variable {α : Type} [Inhabited α] (key idx : α → Nat)
/-- What lies ahead of c came ahead of what lies behind. -/
def Crs (c n : Nat) (d : Array α) : Prop := ∀ i j, i < c → c ≤ j → j < n → idx d[i]! < idx d[j]!
theorem Crs.perm {a b c n : Nat} {d d' : Array α} (h : Crs idx c n d) (hp : PermIn a b d d') (hb : b ≤ n) (hn : n ≤ d.size) (hc : c ≤ a ∨ b ≤ c) : Crs idx c n d' := by
  intro i j h1 h2 h3
  by_cases hi : a ≤ i ∧ i < b
  · by_cases hj : a ≤ j ∧ j < b
    · omega
    · rw [hp.2.1 j (by omega)]
      exact permIn_all d d' a b (fun x => idx x < idx d[j]!) (by omega) hp (fun u h4 h5 => h u j (by omega) h2 h3) i hi.1 hi.2
  · rw [hp.2.1 i (by omega)]
    by_cases hj : a ≤ j ∧ j < b
    · exact permIn_all d d' a b (fun x => idx d[i]! < idx x) (by omega) hp (fun u h4 h5 => h i u h1 (by omega) (by omega)) j hj.1 hj.2
    · rw [hp.2.1 j (by omega)]; exact h i j h1 h2 h3
theorem sortedIn_perm_out {a b lo hi : Nat} {lt : α → α → Bool} {d d' : Array α} (h : SortedIn lt lo hi d) (hp : PermIn a b d d') (hc : hi ≤ a ∨ b ≤ lo) : SortedIn lt lo hi d' := by
  intro i j h1 h2 h3
  rw [hp.2.1 i (by omega), hp.2.1 j (by omega)]; exact h i j h1 h2 h3
theorem sortedIn_less {lo hi lo' hi' : Nat} {lt : α → α → Bool} {d : Array α} (h : SortedIn lt lo hi d) (h1 : lo ≤ lo') (h2 : hi' ≤ hi) : SortedIn lt lo' hi' d :=
  fun i j g1 g2 g3 => h i j (by omega) g2 (by omega)

/-- The first q blocks of bs are sorted, and the rest is as it came. -/
structure Ins20 (bs q n : Nat) (d : Array α) : Prop where
  done : ∀ p, p < q → SortedIn (ltX key idx) (p * bs) (p * bs + bs) d
  cross : ∀ p, p ≤ q → Crs idx (p * bs) n d
  rest : ∀ c, q * bs ≤ c → Crs idx c n d
/-- All blocks of bs are sorted. -/
structure Blks (bs n : Nat) (d : Array α) : Prop where
  srt : ∀ p, SortedIn (ltX key idx) (p * bs) (min (p * bs + bs) n) d
  cross : ∀ p, Crs idx (p * bs) n d
/-- The first q blocks of 2 * bs are sorted, and the blocks of bs behind them. -/
structure Mid (bs q n : Nat) (d : Array α) : Prop where
  done : ∀ p, p < q → SortedIn (ltX key idx) (p * (2 * bs)) (p * (2 * bs) + 2 * bs) d
  rest : ∀ p, 2 * q ≤ p → SortedIn (ltX key idx) (p * bs) (min (p * bs + bs) n) d
  cdone : ∀ p, Crs idx (p * (2 * bs)) n d
  crest : ∀ p, 2 * q ≤ p → Crs idx (p * bs) n d

theorem blk_step {p q bs : Nat} (h : p < q) : p * bs + bs ≤ q * bs := by
  have := Nat.mul_le_mul_right bs (show p + 1 ≤ q by omega)
  rwa [Nat.succ_mul] at this
theorem blk_le {p q bs : Nat} (h : p ≤ q) : p * bs ≤ q * bs := Nat.mul_le_mul_right bs h
theorem blk_two (p bs : Nat) : p * (2 * bs) = 2 * p * bs := by rw [← Nat.mul_assoc, Nat.mul_comm p 2]

theorem Ins20.start (bs n : Nat) (d : Array α) (h : ∀ t s, t < s → s < n → idx d[t]! < idx d[s]!) : Ins20 key idx bs 0 n d :=
  ⟨fun p hp => by omega, fun p _ i j h1 h2 h3 => h i j (by omega) h3, fun c _ i j h1 h2 h3 => h i j (by omega) h3⟩
theorem Ins20.incr {bs q n : Nat} {d : Array α} (h : Ins20 key idx bs q n d) : ∀ t s, q * bs ≤ t → t < s → s < n → idx d[t]! < idx d[s]! :=
  fun t s h1 h2 h3 => h.rest (t + 1) (by omega) t s (by omega) (by omega) h3
theorem Ins20.step {bs q n : Nat} {d d' : Array α} (h : Ins20 key idx bs q n d) (hn : n ≤ d.size) (hq : q * bs + bs ≤ n) (hp : PermIn (q * bs) (q * bs + bs) d d') (hs : SortedIn (ltX key idx) (q * bs) (q * bs + bs) d') : Ins20 key idx bs (q + 1) n d' := by
  have e : (q + 1) * bs = q * bs + bs := Nat.succ_mul q bs
  refine ⟨fun p h1 => ?_, fun p h1 => ?_, fun c h1 => ?_⟩
  · rcases Nat.lt_or_ge p q with g | g
    · exact sortedIn_perm_out (h.done p g) hp (.inl (blk_step g))
    · obtain rfl : p = q := by omega
      exact hs
  · rcases Nat.lt_or_ge p (q + 1) with g | g
    · exact (h.cross p (by omega)).perm idx hp hq hn (.inl (blk_le (by omega)))
    · obtain rfl : p = q + 1 := by omega
      rw [e]; exact (h.rest _ (by omega)).perm idx hp hq hn (.inr (Nat.le_refl _))
  · exact (h.rest c (by omega)).perm idx hp hq hn (.inr (by omega))
theorem Ins20.blks {bs q n : Nat} {d d' : Array α} (h : Ins20 key idx bs q n d) (hn : n ≤ d.size) (h1 : q * bs ≤ n) (h2 : n < q * bs + bs) (hp : PermIn (q * bs) n d d') (hs : SortedIn (ltX key idx) (q * bs) n d') : Blks key idx bs n d' := by
  refine ⟨fun p => ?_, fun p => ?_⟩
  · rcases Nat.lt_trichotomy p q with g | g | g
    · exact sortedIn_less (sortedIn_perm_out (h.done p g) hp (.inl (blk_step g))) (Nat.le_refl _) (by omega)
    · subst g; exact sortedIn_less hs (Nat.le_refl _) (by omega)
    · intro i j g1 g2 g3; have := blk_step (bs := bs) g; omega
  · rcases Nat.lt_or_ge q p with g | g
    · intro i j g1 g2 g3; have := blk_step (bs := bs) g; omega
    · exact (h.cross p g).perm idx hp (Nat.le_refl _) hn (.inl (blk_le g))
theorem Blks.mid {bs n : Nat} {d : Array α} (h : Blks key idx bs n d) : Mid key idx bs 0 n d :=
  ⟨fun p hp => by omega, fun p _ => h.srt p, fun p => by rw [blk_two]; exact h.cross _, fun p _ => h.cross p⟩
theorem Mid.ready {bs q n b : Nat} {d : Array α} (h : Mid key idx bs q n d) (h0 : q * (2 * bs) + bs < b) (h1 : b ≤ n) (h2 : b ≤ q * (2 * bs) + 2 * bs) : MrgIn key idx (q * (2 * bs)) (q * (2 * bs) + bs) b d := by
  have e := blk_two q bs
  have e1 : (2 * q + 1) * bs = 2 * q * bs + bs := Nat.succ_mul _ _
  have r0 := h.rest (2 * q) (Nat.le_refl _)
  have r1 := h.rest (2 * q + 1) (by omega)
  have c1 := h.crest (2 * q + 1) (by omega)
  rw [e1] at r1 c1
  rw [← e] at r0 r1 c1
  exact ⟨sortedIn_less r0 (Nat.le_refl _) (by omega), sortedIn_less r1 (Nat.le_refl _) (by omega), fun i j g1 g2 g3 g4 => c1 i j g2 g3 (by omega)⟩
theorem Mid.step {bs q n : Nat} {d d' : Array α} (h : Mid key idx bs q n d) (hn : n ≤ d.size) (hq : q * (2 * bs) + 2 * bs ≤ n) (hp : PermIn (q * (2 * bs)) (q * (2 * bs) + 2 * bs) d d') (hs : SortedIn (ltX key idx) (q * (2 * bs)) (q * (2 * bs) + 2 * bs) d') : Mid key idx bs (q + 1) n d' := by
  have e : (q + 1) * (2 * bs) = q * (2 * bs) + 2 * bs := Nat.succ_mul q _
  have e2 := blk_two (q + 1) bs
  refine ⟨fun p h1 => ?_, fun p h1 => ?_, fun p => ?_, fun p h1 => ?_⟩
  · rcases Nat.lt_or_ge p q with g | g
    · exact sortedIn_perm_out (h.done p g) hp (.inl (blk_step g))
    · obtain rfl : p = q := by omega
      exact hs
  · have := blk_le (bs := bs) h1
    exact sortedIn_perm_out (h.rest p (by omega)) hp (.inr (by omega))
  · rcases Nat.lt_or_ge q p with g | g
    · have := blk_step (bs := 2 * bs) g
      exact (h.cdone p).perm idx hp hq hn (.inr this)
    · exact (h.cdone p).perm idx hp hq hn (.inl (blk_le g))
  · have := blk_le (bs := bs) h1
    exact (h.crest p (by omega)).perm idx hp hq hn (.inr (by omega))
theorem Mid.last {bs q n : Nat} {d d' : Array α} (h : Mid key idx bs q n d) (hn : n ≤ d.size) (h1 : q * (2 * bs) + bs < n) (h2 : n < q * (2 * bs) + 2 * bs) (hp : PermIn (q * (2 * bs)) n d d') (hs : SortedIn (ltX key idx) (q * (2 * bs)) n d') : Blks key idx (2 * bs) n d' := by
  refine ⟨fun p => ?_, fun p => ?_⟩
  · rcases Nat.lt_trichotomy p q with g | g | g
    · exact sortedIn_less (sortedIn_perm_out (h.done p g) hp (.inl (blk_step g))) (Nat.le_refl _) (by omega)
    · subst g; exact sortedIn_less hs (Nat.le_refl _) (by omega)
    · intro i j g1 g2 g3; have := blk_step (bs := 2 * bs) g; omega
  · rcases Nat.lt_or_ge q p with g | g
    · intro i j g1 g2 g3; have := blk_step (bs := 2 * bs) g; omega
    · exact (h.cdone p).perm idx hp (Nat.le_refl _) hn (.inl (blk_le g))
theorem Mid.over {bs q n : Nat} {d : Array α} (h : Mid key idx bs q n d) (h1 : n ≤ q * (2 * bs) + bs) : Blks key idx (2 * bs) n d := by
  refine ⟨fun p => ?_, fun p => h.cdone p⟩
  rcases Nat.lt_trichotomy p q with g | g | g
  · exact sortedIn_less (h.done p g) (Nat.le_refl _) (by omega)
  · subst g
    have e := blk_two p bs
    have := h.rest (2 * p) (Nat.le_refl _)
    rw [← e] at this
    exact sortedIn_less this (Nat.le_refl _) (by omega)
  · intro i j g1 g2 g3; have := blk_step (bs := 2 * bs) g; omega
theorem Blks.end {bs n : Nat} {d : Array α} (h : Blks key idx bs n d) (hn : n ≤ bs) : SortedIn (ltX key idx) 0 n d := by
  have := h.srt 0
  rw [Nat.zero_mul] at this
  exact sortedIn_less this (Nat.le_refl _) (by omega)
end
end Go.Proofs.Ytajabfegeeepeab
