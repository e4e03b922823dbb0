/- Y1, Y2, Y3, Y4, Y5, Y6, Y7, laid as one text. -/
import Derived.Test.YthlbplmghjaeoaeN10
import Derived.Maps.OwnSet
import Derived.Outline
import Derived.StillTailTactics
import Derived.Maps.AppendAt
import Derived.WalkMore
import Derived.Deep.AppendLies
import Derived.Deep.RegionLaw
import Derived.Test.YthlbplmghjaeoaeGN1

/- Opening: what a search over zeros reaches, and increasing lists (plain mathematics). -/
namespace Go.Proofs.Ythlbplmghjaeoae

/-- What a click reaches: over zeros to their neighbours. -/
inductive Reach (near : Nat → List Nat) (zero : Nat → Bool) (f : Nat) : Nat → Prop
  | start : Reach near zero f f
  | step {y x : Nat} : Reach near zero f y → zero y = true → x ∈ near y → Reach near zero f x

/-- New ones of a list are put behind a queue. -/
def addB (L0 : List Nat) : List Nat → List Nat → List Nat
  | q, [] => q
  | q, x :: r => if x ∈ L0 ∨ x ∈ q then addB L0 q r else addB L0 (q ++ [x]) r

/-- The search over zeros, as a queue. -/
def bfs (near : Nat → List Nat) (zero : Nat → Bool) (L0 : List Nat) : Nat → Nat → List Nat → List Nat
  | 0, _, q => q
  | m + 1, k, q => if h : k < q.length then bfs near zero L0 m (k + 1) (if zero q[k] = true then addB L0 q (near q[k]) else q) else q

theorem addB_pre (L0 : List Nat) : ∀ (r q : List Nat), ∃ t, addB L0 q r = q ++ t
  | [], q => ⟨[], by simp [addB]⟩
  | x :: r, q => by
    unfold addB
    split
    · exact addB_pre L0 r q
    · obtain ⟨t, ht⟩ := addB_pre L0 r (q ++ [x])
      exact ⟨x :: t, by rw [ht]; simp⟩
theorem addB_mem (L0 : List Nat) (x : Nat) : ∀ (r q : List Nat), x ∈ addB L0 q r ↔ x ∈ q ∨ (x ∈ r ∧ x ∉ L0)
  | [], q => by simp [addB]
  | y :: r, q => by
    unfold addB
    split
    · rename_i h
      rw [addB_mem L0 x r q]
      constructor
      · rintro (h1 | ⟨h1, h2⟩)
        · exact .inl h1
        · exact .inr ⟨List.mem_cons_of_mem _ h1, h2⟩
      · rintro (h1 | ⟨h1, h2⟩)
        · exact .inl h1
        · rcases List.mem_cons.1 h1 with rfl | h1
          · rcases h with h | h
            · exact absurd h h2
            · exact .inl h
          · exact .inr ⟨h1, h2⟩
    · rename_i h
      rw [addB_mem L0 x r (q ++ [y])]
      simp only [not_or] at h
      constructor
      · rintro (h1 | ⟨h1, h2⟩)
        · rcases List.mem_append.1 h1 with h1 | h1
          · exact .inl h1
          · obtain rfl := List.mem_singleton.1 h1
            exact .inr ⟨List.mem_cons_self, h.1⟩
        · exact .inr ⟨List.mem_cons_of_mem _ h1, h2⟩
      · rintro (h1 | ⟨h1, h2⟩)
        · exact .inl (List.mem_append.2 (.inl h1))
        · rcases List.mem_cons.1 h1 with rfl | h1
          · exact .inl (List.mem_append.2 (.inr (List.mem_singleton.2 rfl)))
          · exact .inr ⟨h1, h2⟩
theorem addB_nodup (L0 : List Nat) : ∀ (r q : List Nat), q.Nodup → (addB L0 q r).Nodup
  | [], _, h => h
  | x :: r, q, h => by
    unfold addB
    split
    · exact addB_nodup L0 r q h
    · rename_i hx
      simp only [not_or] at hx
      refine addB_nodup L0 r _ ?_
      rw [List.nodup_append]
      exact ⟨h, by simp, by intro a ha b hb e; simp at hb; subst hb; subst e; exact hx.2 ha⟩
/-- The numbers below n that are on a list, increasing. -/
def sortM (n : Nat) (L : List Nat) : List Nat := (List.range n).filter fun x => decide (x ∈ L)
theorem mem_sortM {n : Nat} {L : List Nat} (h : ∀ x ∈ L, x < n) (x : Nat) : x ∈ sortM n L ↔ x ∈ L := by
  simp only [sortM, List.mem_filter, List.mem_range, decide_eq_true_eq]
  exact ⟨fun h => h.2, fun hx => ⟨h x hx, hx⟩⟩
theorem sortM_rise (n : Nat) (L : List Nat) : (sortM n L).Pairwise (· < ·) := List.Pairwise.filter _ List.pairwise_lt_range
theorem sortM_le (n : Nat) (L : List Nat) : (sortM n L).length ≤ n := by
  refine Nat.le_trans (List.length_filter_le _ _) ?_
  rw [List.length_range]
  exact Nat.le_refl n
theorem sortM_congr {n : Nat} {L L' : List Nat} (h : ∀ x, x ∈ L ↔ x ∈ L') : sortM n L = sortM n L' := by
  unfold sortM
  congr 1
  funext x
  simp [h x]
/-- Two increasing lists with the same numbers are one. -/
theorem rise_ext {a b : List Nat} (ha : a.Pairwise (· < ·)) (hb : b.Pairwise (· < ·)) (h : ∀ x, x ∈ a ↔ x ∈ b) : a = b := by
  have hp : a.Perm b := (List.perm_ext_iff_of_nodup (ha.imp (fun h => Nat.ne_of_lt h)) (hb.imp (fun h => Nat.ne_of_lt h))).2 h
  exact hp.eq_of_pairwise (fun x y _ _ h1 h2 => by omega) ha hb
theorem rise_sortM {n : Nat} {a : List Nat} (ha : a.Pairwise (· < ·)) (h : ∀ x ∈ a, x < n) : a = sortM n a :=
  rise_ext ha (sortM_rise _ _) (fun x => (mem_sortM h x).symm)

/-- Different numbers below n are at most n. -/
theorem sortM_perm {n : Nat} {q : List Nat} (h : q.Nodup) (hq : ∀ x ∈ q, x < n) : (sortM n q).Perm q :=
  (List.perm_ext_iff_of_nodup ((sortM_rise n q).imp (fun h => Nat.ne_of_lt h)) h).2 (fun x => mem_sortM hq x)
theorem sortM_len {n : Nat} {q : List Nat} (h : q.Nodup) (hq : ∀ x ∈ q, x < n) : (sortM n q).length = q.length := (sortM_perm h hq).length_eq
theorem nodup_le {n : Nat} {q : List Nat} (h : q.Nodup) (hq : ∀ x ∈ q, x < n) : q.length ≤ n := by
  rw [← sortM_len h hq]; exact sortM_le n q

section
variable {near : Nat → List Nat} {zero : Nat → Bool} {L0 : List Nat} {n f : Nat}

/-- What the search keeps to: a queue whose first k ones are done. -/
structure Bq (near : Nat → List Nat) (zero : Nat → Bool) (L0 : List Nat) (n f k : Nat) (q : List Nat) : Prop where
  nodup : q.Nodup
  lt : ∀ x ∈ q, x < n
  reach : ∀ x ∈ q, Reach near zero f x
  first : f ∈ q
  done : ∀ j, (h : j < q.length) → j < k → zero q[j] = true → ∀ x ∈ near q[j], x ∈ L0 ∨ x ∈ q
theorem Bq.start (hf : f < n) : Bq near zero L0 n f 0 [f] :=
  ⟨by simp, by simpa using hf, by intro x hx; simp at hx; subst hx; exact .start, by simp, by intro j h hj; omega⟩
theorem Bq.next {k : Nat} {q : List Nat} (hn : ∀ y, ∀ x ∈ near y, x < n) (h : Bq near zero L0 n f k q) (hk : k < q.length) : Bq near zero L0 n f (k + 1) (if zero q[k] = true then addB L0 q (near q[k]) else q) := by
  by_cases hz : zero q[k] = true
  · rw [if_pos hz]
    refine ⟨addB_nodup _ _ _ h.nodup, ?_, ?_, ?_, ?_⟩
    · intro x hx
      rcases (addB_mem _ _ _ _).1 hx with hx | hx
      · exact h.lt x hx
      · exact hn _ x hx.1
    · intro x hx
      rcases (addB_mem _ _ _ _).1 hx with hx | hx
      · exact h.reach x hx
      · exact .step (h.reach _ (List.getElem_mem hk)) hz hx.1
    · exact (addB_mem _ _ _ _).2 (.inl h.first)
    · intro j hj hjk hzj x hx
      obtain ⟨t, ht⟩ := addB_pre L0 (near q[k]) q
      have hjq : j < q.length := by omega
      have e : (addB L0 q (near q[k]))[j] = q[j] := by simp only [ht]; rw [List.getElem_append_left hjq]
      rw [e] at hzj hx
      by_cases hx0 : x ∈ L0
      · exact .inl hx0
      · refine .inr ((addB_mem _ _ _ _).2 ?_)
        by_cases hjk2 : j < k
        · rcases h.done j hjq hjk2 hzj x hx with h1 | h1
          · exact absurd h1 hx0
          · exact .inl h1
        · obtain rfl : j = k := by omega
          exact .inr ⟨hx, hx0⟩
  · rw [if_neg hz]
    refine ⟨h.nodup, h.lt, h.reach, h.first, ?_⟩
    intro j hj hjk hzj
    by_cases hjk2 : j < k
    · exact h.done j hj hjk2 hzj
    · obtain rfl : j = k := by omega
      exact absurd hzj hz
theorem Bq.end (hn : ∀ y, ∀ x ∈ near y, x < n) : ∀ (m k : Nat) (q : List Nat), n ≤ m + k → Bq near zero L0 n f k q → ∃ k', (bfs near zero L0 m k q).length ≤ k' ∧ Bq near zero L0 n f k' (bfs near zero L0 m k q)
  | 0, k, q, hm, h => ⟨k, by have := nodup_le h.nodup h.lt; unfold bfs; omega, h⟩
  | m + 1, k, q, hm, h => by
    unfold bfs
    by_cases hk : k < q.length
    · rw [dif_pos hk]
      exact Bq.end hn m (k + 1) _ (by omega) (h.next hn hk)
    · rw [dif_neg hk]
      exact ⟨k, by omega, h⟩
/-- What was open is closed under clicks on zeros. -/
def Closed (near : Nat → List Nat) (zero : Nat → Bool) (L : List Nat) : Prop := ∀ y ∈ L, zero y = true → ∀ x ∈ near y, x ∈ L
theorem bfs_closed (hn : ∀ y, ∀ x ∈ near y, x < n) (hf : f < n) (hc : Closed near zero L0) : Closed near zero (L0 ++ bfs near zero L0 n 0 [f]) := by
  obtain ⟨k', hk', h⟩ := Bq.end (L0 := L0) hn n 0 [f] (by omega) (Bq.start (near := near) (zero := zero) hf)
  intro y hy hz x hx
  rcases List.mem_append.1 hy with hy | hy
  · exact List.mem_append.2 (.inl (hc y hy hz x hx))
  · obtain ⟨j, hj, rfl⟩ := List.getElem_of_mem hy
    exact List.mem_append.2 (h.done j hj (by omega) hz x hx)
theorem bfs_mem (hn : ∀ y, ∀ x ∈ near y, x < n) (hf : f < n) (hc : Closed near zero L0) (x : Nat) : x ∈ L0 ++ bfs near zero L0 n 0 [f] ↔ x ∈ L0 ∨ Reach near zero f x := by
  obtain ⟨k', hk', h⟩ := Bq.end (L0 := L0) hn n 0 [f] (by omega) (Bq.start (near := near) (zero := zero) hf)
  constructor
  · intro hx
    rcases List.mem_append.1 hx with hx | hx
    · exact .inl hx
    · exact .inr (h.reach x hx)
  · rintro (hx | hx)
    · exact List.mem_append.2 (.inl hx)
    · induction hx with
      | start => exact List.mem_append.2 (.inr h.first)
      | step _ hz hx ih => exact bfs_closed hn hf hc _ ih hz _ hx
theorem bfs_lt (hn : ∀ y, ∀ x ∈ near y, x < n) (hf : f < n) : ∀ x ∈ bfs near zero L0 n 0 [f], x < n := by
  obtain ⟨k', hk', h⟩ := Bq.end (L0 := L0) hn n 0 [f] (by omega) (Bq.start (near := near) (zero := zero) hf)
  exact h.lt
theorem bfs_len (hn : ∀ y, ∀ x ∈ near y, x < n) (hf : f < n) : (bfs near zero L0 n 0 [f]).length ≤ n := by
  obtain ⟨k', hk', h⟩ := Bq.end (L0 := L0) hn n 0 [f] (by omega) (Bq.start (near := near) (zero := zero) hf)
  exact nodup_le h.nodup h.lt
theorem bfs_nodup (hn : ∀ y, ∀ x ∈ near y, x < n) (hf : f < n) : (bfs near zero L0 n 0 [f]).Nodup := by
  obtain ⟨k', hk', h⟩ := Bq.end (L0 := L0) hn n 0 [f] (by omega) (Bq.start (near := near) (zero := zero) hf)
  exact h.nodup
theorem closed_nil : Closed near zero [] := by intro y hy; simp at hy
theorem bfs0_mem (hn : ∀ y, ∀ x ∈ near y, x < n) (hf : f < n) (x : Nat) : x ∈ bfs near zero [] n 0 [f] ↔ Reach near zero f x := by
  have := bfs_mem (L0 := []) (zero := zero) hn hf closed_nil x
  simpa using this
end

/-- A number put into an increasing list. -/
def putM : List Nat → Nat → List Nat
  | [], x => [x]
  | y :: r, x => if y < x then y :: putM r x else if y = x then y :: r else x :: y :: r
theorem mem_putM (x z : Nat) : ∀ l : List Nat, z ∈ putM l x ↔ z = x ∨ z ∈ l
  | [] => by simp [putM]
  | y :: r => by
    unfold putM
    by_cases h1 : y < x
    · rw [if_pos h1, List.mem_cons, mem_putM x z r, List.mem_cons]
      constructor
      · rintro (h | h | h)
        · exact .inr (.inl h)
        · exact .inl h
        · exact .inr (.inr h)
      · rintro (h | h | h)
        · exact .inr (.inl h)
        · exact .inl h
        · exact .inr (.inr h)
    · rw [if_neg h1]
      by_cases h2 : y = x
      · rw [if_pos h2]; subst h2
        constructor
        · exact .inr
        · rintro (h | h)
          · rw [h]; exact List.mem_cons_self
          · exact h
      · rw [if_neg h2]; exact List.mem_cons
theorem putM_rise (x : Nat) : ∀ l : List Nat, l.Pairwise (· < ·) → (putM l x).Pairwise (· < ·)
  | [], _ => by simp [putM]
  | y :: r, h => by
    obtain ⟨h1, h2⟩ := List.pairwise_cons.1 h
    unfold putM
    by_cases c1 : y < x
    · rw [if_pos c1]
      refine List.pairwise_cons.2 ⟨?_, putM_rise x r h2⟩
      intro z hz
      rcases (mem_putM x z r).1 hz with rfl | hz
      · exact c1
      · exact h1 z hz
    · rw [if_neg c1]
      by_cases c2 : y = x
      · rw [if_pos c2]; exact h
      · rw [if_neg c2]
        refine List.pairwise_cons.2 ⟨?_, h⟩
        intro z hz
        rcases List.mem_cons.1 hz with rfl | hz
        · omega
        · have := h1 z hz; omega
theorem putM_sort {n x : Nat} {L : List Nat} (h : ∀ y ∈ L, y < n) (hx : x < n) : putM (sortM n L) x = sortM n (L ++ [x]) := by
  refine rise_ext (putM_rise _ _ (sortM_rise _ _)) (sortM_rise _ _) (fun z => ?_)
  have h2 : ∀ y ∈ L ++ [x], y < n := by
    intro y hy
    rcases List.mem_append.1 hy with hy | hy
    · exact h y hy
    · rw [List.mem_singleton.1 hy]; exact hx
  rw [mem_putM, mem_sortM h, mem_sortM h2, List.mem_append, List.mem_singleton]
  exact Or.comm
theorem putM_len (x : Nat) : ∀ l : List Nat, (putM l x).length ≤ l.length + 1
  | [] => by simp [putM]
  | y :: r => by
    have := putM_len x r
    unfold putM
    split
    · simp; omega
    · split <;> simp
theorem putM_step (l : List Nat) (x k : Nat) (hk : k < l.length) (h : l[k] < x) : l.take k ++ putM (l.drop k) x = l.take (k + 1) ++ putM (l.drop (k + 1)) x := by
  rw [List.drop_eq_getElem_cons hk, putM, if_pos h, List.take_succ_eq_append_getElem hk, List.append_assoc]
  rfl
theorem putM_there (l : List Nat) (x k : Nat) (hk : k < l.length) (h : l[k] = x) : l.take k ++ putM (l.drop k) x = l := by
  rw [List.drop_eq_getElem_cons hk, putM, if_neg (by omega), if_pos h, ← List.drop_eq_getElem_cons hk, List.take_append_drop]
theorem putM_here (l : List Nat) (x k : Nat) (hk : k ≤ l.length) (h : ∀ hk : k < l.length, x < l[k]) : l.take k ++ putM (l.drop k) x = (l.take k ++ [x]) ++ l.drop k := by
  by_cases hk2 : k < l.length
  · rw [List.drop_eq_getElem_cons hk2, putM, if_neg (by have := h hk2; omega), if_neg (by have := h hk2; omega), List.append_assoc]
    rfl
  · rw [List.drop_of_length_le (by omega)]
    simp [putM]
end Go.Proofs.Ythlbplmghjaeoae

/- Opening: a map of cells that the call made, each set true. -/
namespace Go.Proofs.Ythlbplmghjaeoae
open Go.RowKit

theorem addB_push (L0 : List Nat) : ∀ (r q s : List Nat), addB L0 (q ++ s) r = q ++ addB (L0 ++ q) s r
  | [], q, s => by simp [addB]
  | x :: r, q, s => by
    have h : (x ∈ L0 ∨ x ∈ q ++ s) ↔ (x ∈ L0 ++ q ∨ x ∈ s) := by simp only [List.mem_append]; exact ⟨fun h => h.elim (fun h => .inl (.inl h)) (fun h => h.elim (fun h => .inl (.inr h)) .inr), fun h => h.elim (fun h => h.elim .inl (fun h => .inr (.inl h))) (fun h => .inr (.inr h))⟩
    unfold addB
    by_cases c : x ∈ L0 ∨ x ∈ q ++ s
    · rw [if_pos c, if_pos (h.1 c)]; exact addB_push L0 r q s
    · rw [if_neg c, if_neg (fun e => c (h.2 e)), List.append_assoc]; exact addB_push L0 r q (s ++ [x])
theorem addB_from (L0 q r : List Nat) : addB L0 q r = q ++ addB (L0 ++ q) [] r := by
  have := addB_push L0 r q []
  simpa using this
theorem bfs_stop (near : Nat → List Nat) (zero : Nat → Bool) (L0 q : List Nat) : ∀ m, bfs near zero L0 m q.length q = q
  | 0 => rfl
  | m + 1 => by rw [bfs, dif_neg (by omega)]
theorem addB_len (L0 : List Nat) : ∀ r q : List Nat, (addB L0 q r).length ≤ q.length + r.length
  | [], q => by simp [addB]
  | x :: r, q => by
    unfold addB
    split
    · have := addB_len L0 r q; simp; omega
    · have := addB_len L0 r (q ++ [x]); simp at this; simp; omega

/-- All but block b is as it was; new blocks may have come. -/
def Touch (b : Nat) (w w' : World) : Prop := w.grownBy w' (some b)
theorem Touch.refl (b : Nat) (w : World) : Touch b w w := ⟨rfl, rfl, rfl, Nat.le_refl _, fun _ _ _ => rfl⟩
theorem Touch.size {b : Nat} {w w' : World} (h : Touch b w w') : w.heap.size ≤ w'.heap.size := World.grownBy.size h
theorem Touch.trans {b : Nat} {w w' w'' : World} (h : Touch b w w') (h' : Touch b w' w'') : Touch b w w'' :=
  ⟨h'.os.trans h.os, h'.tape.trans h.tape, h'.output.trans h.output, Nat.le_trans h.size h'.size,
    fun k hk hne => (h'.block k (Nat.lt_of_lt_of_le hk h.size) hne).trans (h.block k hk hne)⟩
theorem Touch.of {b : Nat} {w w' : World} (h : Below w.heap.size w w') : Touch b w w' := ⟨h.os, h.tape, h.output, h.size, fun k hk _ => h.block k hk⟩
theorem Touch.then {b C : Nat} {w w' w'' : World} (h : Touch b w w') (hb : Below C w' w'') (hC : w.heap.size ≤ C) : Touch b w w'' :=
  ⟨hb.os.trans h.os, hb.tape.trans h.tape, hb.output.trans h.output, Nat.le_trans h.size hb.size, fun k hk hne => (hb.block k (by omega)).trans (h.block k hk hne)⟩
theorem Touch.below {b C : Nat} {w w' : World} (h : Touch b w w') (hC : C ≤ b) (hs : b < w.heap.size) : Below C w w' :=
  ⟨h.os, h.tape, h.output, h.size, fun k hk => h.block k (by omega) (by simp; omega)⟩
theorem Owns.touch {b B e : Nat} {w w' : World} {v : Value} {xs : List Value} (h : Owns w B e v xs) (ht : Touch b w w') (hb : b < B) : Owns w' B e v xs := by
  have hl := Owns.lt h
  refine World.ownsRow.kept h ht ?_
  cases hv : v.ownBlock with
  | none => exact .inl rfl
  | some k => exact .inr (by have := hl k hv; simp; omega)
theorem cells_of {w : World} {p : Addr} {v : Value} (h : w.cell? p = some v) : ∃ cur e f, w.heap[p.block]? = some (.cells cur e f) := by
  unfold World.cell? at h
  split at h
  · exact ⟨_, _, _, by assumption⟩
  · cases h
theorem At.touch {b : Nat} {w w' : World} {a : Option Addr} {xs : List Value} (h : At w a xs) (ht : Touch b w w') (hb : ∀ cur e f, w.heap[b]? ≠ some (.cells cur e f)) : At w' a xs := by
  intro k hk
  obtain ⟨g, off, ha, hc⟩ := h k hk
  refine ⟨g, off, ha, World.grownBy.cell ht hc ?_⟩
  intro e
  simp only [Option.some.injEq] at e
  subst e
  have hlt := World.block_lt_of_cell? w _ hc
  obtain ⟨cur, t, f, hh⟩ := cells_of hc
  exact hb cur t f hh

def keyI (c : Nat) : Lit := .int .i64 (c : Int)
theorem keyI_inj {a b : Nat} (h : keyI a = keyI b) : a = b := by
  have e : (a : Int) = (b : Int) := by simpa [keyI] using h
  omega
theorem keyI_is (c : Nat) : WideAt.IsKeyLit (keyI c) := trivial
theorem keyI_wf (c : Nat) (h : c < 1099511627776) : (keyI c).wf = true := by
  have h1 : IntKind.i64.min = -9223372036854775808 := rfl
  have h2 : IntKind.i64.max = 9223372036854775807 := rfl
  show (decide (IntKind.i64.min ≤ (c : Int)) && decide ((c : Int) ≤ IntKind.i64.max)) = true
  rw [h1, h2, Bool.and_eq_true, decide_eq_true_eq, decide_eq_true_eq]
  omega

/-- The datum of a map of numbers, each set true. -/
def setI (L : List Nat) : DataW Unit := Maps.setOf (.lit (.bool true)) (L.map keyI)
theorem setI_snoc (L : List Nat) (c : Nat) : setI (L ++ [c]) = (setI L).put (keyI c) (.lit (.bool true)) := by
  unfold setI
  rw [List.map_append]
  exact Maps.setOf_snoc _ _ _
theorem fold_at (c : Nat) (z : DataW Unit) : ∀ (L : List Nat) (m : DataW Unit), Maps.IsMap m →
    ((L.map keyI).foldl (fun m x => m.put x (.lit (.bool true))) m).atKey (keyI c) z = if c ∈ L then .lit (.bool true) else m.atKey (keyI c) z
  | [], _, _ => by simp
  | x :: r, m, hm => by
    rw [List.map_cons, List.foldl_cons, fold_at c z r _ (hm.put _ _)]
    by_cases h1 : c ∈ r
    · rw [if_pos h1, if_pos (List.mem_cons_of_mem _ h1)]
    · rw [if_neg h1]
      by_cases h2 : c = x
      · subst h2
        rw [if_pos List.mem_cons_self, Maps.atKey_put_same hm (keyI_is _)]
      · rw [if_neg (by rw [List.mem_cons]; exact fun e => e.elim h2 h1), Maps.atKey_put_other (fun e => h2 (keyI_inj e))]
theorem setI_at (L : List Nat) (c : Nat) (z : DataW Unit) : (setI L).atKey (keyI c) z = if c ∈ L then .lit (.bool true) else z := by
  unfold setI Maps.setOf
  rw [fold_at c z L _ Maps.isMap_empty]
  rfl

/-- Block b is a map of the cells L, each true. -/
def Marks (w : World) (b : Nat) (L : List Nat) : Prop := w.ownsMap Try.prog 3 (plainElem (H := Unit) Try.prog 4) b L.length (setI L)
theorem Marks.made (w : World) : Marks (w.alloc (.map #[] 0)) w.heap.size [] := World.ownsMap_made _ _ _ _
theorem Marks.lt {w : World} {b : Nat} {L : List Nat} (h : Marks w b L) : b < w.heap.size := World.ownsMap.lt h
theorem Marks.nocells {w : World} {b : Nat} {L : List Nat} (h : Marks w b L) : ∀ cur e f, w.heap[b]? ≠ some (.cells cur e f) := by
  intro cur e f hc
  obtain ⟨es, clock, hb, _⟩ := h
  rw [hb] at hc
  cases hc
theorem Marks.kept {w w' : World} {b : Nat} {L : List Nat} (h : Marks w b L) {C : Nat} (hC : b < C) (hb : Below C w w') : Marks w' b L := by
  obtain ⟨es, clock, h1, h2⟩ := h
  exact ⟨es, clock, by rw [hb.block b hC]; exact h1, h2⟩
theorem Marks.later {w w' : World} {b : Nat} {L : List Nat} (h : Marks w b L) (hb : Below w.heap.size w w') : Marks w' b L := h.kept h.lt hb

theorem keyedI : Maps.Keyed Try.prog 3 := Maps.int_keyed Try.underlying3
theorem keyI_of (c : Nat) (h : c < 1099511627776) : keyOf Try.prog 3 (.int .i64 (c : Int)) = some (keyI c) := Maps.keyOf_int_mk Try.underlying3 (keyI_wf c h)
theorem zeroBool (w : World) : (zeroValue 4).run Try.prog w = .ok (.bool false) w := by kernel_rfl

theorem plainElem_bool_inv {P : Program} {e : TypeId} (he : P.underlying e = some .bool) {v : Value} {z : DataW Unit × List MemPlace} (h : plainElem P e v = some z) : ∃ x, v = .bool x ∧ z = (.lit (.bool x), []) := by
  unfold plainElem at h
  rw [he] at h
  cases v <;> simp at h
  exact ⟨_, rfl, h.symm⟩

/-- Is a cell in the map? -/
theorem wpList_mark_look {ops : Array Oper} {rest : List Oper} {o : Oper} {a : Act} {Q : Exit → Act → World → Prop} {w : World} (hg : o.guard = none) (m x : Operand)
    (hop : o.op = Op.lookup 79 m x false) (b : Nat) (L : List Nat) (hm : a.eval m = .map (some b)) (hM : Marks w b L) (c : Nat) (hx : a.eval x = .int .i64 (c : Int)) (hc : c < 1099511627776) (v : Bool) (hv : decide (c ∈ L) = v)
    (hK : wpList Try.prog ops Q rest (a.put o.dst (.bool v)) w) : wpList Try.prog ops Q (o :: rest) a w := by
  refine wpList_plain hg fun K' hK' => ?_
  obtain ⟨v', ps, hrun, hR⟩ := World.ownsMap.lookup hM keyedI Try.underlying79 (zeroBool w) (zd := .lit (.bool false)) (zp := []) (plainElem_bool Try.underlying4 false) (keyI_of c hc)
  rw [setI_at] at hR
  obtain ⟨y, rfl, hy⟩ := plainElem_bool_inv Try.underlying4 hR
  obtain rfl : y = v := by
    subst hv
    have hy1 := congrArg Prod.fst hy
    by_cases hcL : c ∈ L
    · rw [if_pos hcL] at hy1
      simp [hcL] at hy1 ⊢; exact hy1
    · rw [if_neg hcL] at hy1
      simp [hcL] at hy1 ⊢; exact hy1
  unfold Oper.wp
  simp [execOp, hop, hm, hx, hrun, Result.andThen]
  exact hK' _ _ hK

/-- A cell is set true. -/
theorem wpList_mark_put {ops : Array Oper} {rest : List Oper} {o : Oper} {a : Act} {Q : Exit → Act → World → Prop} {w : World} (hg : o.guard = none) (m x v : Operand)
    (hop : o.op = Op.mapUpdate 79 m x v) (b : Nat) (L : List Nat) (hm : a.eval m = .map (some b)) (hM : Marks w b L) (c : Nat) (hx : a.eval x = .int .i64 (c : Int)) (hc : c < 1099511627776) (hv : a.eval v = .bool true) (hL : L.length < 1099511627776)
    (hK : ∀ w', Marks w' b (L ++ [c]) → Touch b w w' → wpList Try.prog ops Q rest (a.put o.dst undef) w') : wpList Try.prog ops Q (o :: rest) a w := by
  refine wpList_mapUpdate_own w hg m x v _ hop _ _ keyedI Try.underlying79 _ b L.length (setI L) hm hM (by unfold maxLen; omega) _ _ (keyI c) hx hv (keyI_of c hc) (.lit (.bool true)) [] (plainElem_bool Try.underlying4 true) ?_
  intro w' h1 h2
  refine hK w' ?_ h2
  unfold Marks
  rw [setI_snoc, List.length_append]
  exact h1
end Go.Proofs.Ythlbplmghjaeoae

/- Opening: the neighbours that were not open, by the program. -/
namespace Go.Proofs.Ythlbplmghjaeoae
open Go.RowKit

end Go.Proofs.Ythlbplmghjaeoae

/- Opening: a click on a cell, by the program. -/
namespace Go.Proofs.Ythlbplmghjaeoae
open Go.RowKit

theorem At.ofNone {w : World} {xs : List Value} (h : At w none xs) : xs = [] := by
  cases xs with
  | nil => rfl
  | cons x r =>
    obtain ⟨b, off, h, _⟩ := h 0 (by simp)
    cases h

/-- append of a whole row, nil or not, to a row that the call owns. -/
theorem run_appA {P : Program} (w : World) (B t ty e bytes : Nat) (z : Value) (E : Elem P t e z bytes) (v : Value) (xs : List Value) (hown : Owns w B e v xs)
    (A : Option Addr) (c : Nat) (news : List Value) (hat : At w A news) (h1 : ∀ u ∈ news, u.oneCell' = true) (hlen : (xs.length + news.length) * bytes ≤ 140737488355328) (hlen' : xs.length + news.length < 1099511627776) (hB : B ≤ w.heap.size) :
    ∃ v' w', (Builtin.append_ #[t, t] ty #[v, .slice A news.length c]).run P w = .ok v' w' ∧ Owns w' B e v' (xs ++ news) ∧ Below B w w' := by
  obtain ⟨i, hi, hz, hsz, hby⟩ := E.info
  cases A with
  | none =>
    obtain rfl := hat.ofNone
    refine ⟨v, w, ?_, by simpa using hown, Below.refl _ _⟩
    rcases hown.2 with ⟨rfl, _⟩ | ⟨g, cap, cur, rfl, _, _, hnc, _⟩
    · simp [Builtin.append_, run_underlying E.und, sizeOf, typeInfo, hi, Builtin.lenOf, Builtin.firstCells]
    · simp [Builtin.append_, run_underlying E.und, sizeOf, typeInfo, hi, Builtin.lenOf, Builtin.firstCells, hnc, storeCells]
  | some ad =>
    have hnews : ∀ j u, news[j]? = some u → w.cell? (ad.add j) = some u := by
      intro j u hu
      obtain ⟨hj, rfl⟩ := List.getElem?_eq_some_iff.1 hu
      obtain ⟨b, off, hab, hc⟩ := hat j hj
      obtain rfl : ad = ⟨b, off, none⟩ := by simpa using hab
      rw [Addr.add_lit]
      exact hc
    obtain ⟨v', w', hr, h2, h3, _⟩ := run_append_own (P := P) w B t ty e i z 1 bytes E.und hi hz hsz hby E.one (by decide) v xs.length xs hown ad news.length c news (by simp) hnews h1 (by unfold maxLen; omega) hlen hB
    exact ⟨v', w', hr, by unfold Owns; rw [List.length_append]; exact h2, (Below.refl B w).grown h3 hB (fun k hk => (Owns.lt hown k hk).1)⟩
theorem wpList_appA {P : Program} {ops : Array Oper} {rest : List Oper} {o : Oper} {a : Act} {Q : Exit → Act → World → Prop} {w : World} (hgd : o.guard = none) (s x : Operand) (t : TypeId)
    (ho : o.op = .call { callee := .builtin .append, args := #[s, x], argTypes := #[t, t] })
    (B e bytes : Nat) (z : Value) (E : Elem P t e z bytes) (v : Value) (xs : List Value) (hs : a.eval s = v) (hown : Owns w B e v xs) (A : Option Addr) (n c : Nat) (news : List Value) (hx : a.eval x = .slice A n c) (hn : news.length = n) (hat : At w A news) (h1 : ∀ u ∈ news, u.oneCell' = true)
    (hlen : (xs.length + news.length) * bytes ≤ 140737488355328) (hlen' : xs.length + news.length < 1099511627776) (hB : B ≤ w.heap.size)
    (h : ∀ v' w', Owns w' B e v' (xs ++ news) → Below B w w' → wpList P ops Q rest (a.put o.dst v') w') : wpList P ops Q (o :: rest) a w := by
  subst hn
  refine wpList_plain hgd fun K hK => ?_
  obtain ⟨v', w', hrun, h2, h3⟩ := run_appA (P := P) w B t o.type e bytes z E v xs hown A c news hat h1 hlen hlen' hB
  unfold Oper.wp execOp
  simp only [ho, resolve, invoke, builtin, Sem.run_bind, Sem.run_pure, Result.andThen_ok, List.map_toArray, List.map_cons, List.map_nil, hs, hx, hrun]
  exact hK _ _ (h v' w' h2 h3)
theorem step_appA {P : Program} {ops : Array Oper} {o : Oper} {a : Act} {K : Act → World → Prop} {Q : Exit → Act → World → Prop} {S : Prop} {w : World} (hgd : o.guard = none) (s x : Operand) (t : TypeId)
    (ho : o.op = .call { callee := .builtin .append, args := #[s, x], argTypes := #[t, t] })
    (B e bytes : Nat) (z : Value) (E : Elem P t e z bytes) (v : Value) (xs : List Value) (hs : a.eval s = v) (hown : Owns w B e v xs) (A : Option Addr) (n c : Nat) (news : List Value) (hx : a.eval x = .slice A n c) (hn : news.length = n) (hat : At w A news) (h1 : ∀ u ∈ news, u.oneCell' = true)
    (hlen : (xs.length + news.length) * bytes ≤ 140737488355328) (hlen' : xs.length + news.length < 1099511627776) (hB : B ≤ w.heap.size)
    (h : ∀ v' w', Owns w' B e v' (xs ++ news) → Below B w w' → K (a.put o.dst v') w') :
    if Region.wanted o (yielded ops a.tmps) = true then Oper.wp P o a w K Q else S := by
  subst hn
  have hw : Region.wanted o (yielded ops a.tmps) = true := by simp [Region.wanted, hgd]
  rw [if_pos hw]
  obtain ⟨v', w', hrun, h2, h3⟩ := run_appA (P := P) w B t o.type e bytes z E v xs hown A c news hat h1 hlen hlen' hB
  unfold Oper.wp execOp
  simp only [ho, resolve, invoke, builtin, Sem.run_bind, Sem.run_pure, Result.andThen_ok, List.map_toArray, List.map_cons, List.map_nil, hs, hx, hrun]
  exact h v' w' h2 h3
theorem nats_one (xs : List Nat) : ∀ u ∈ nats xs, u.oneCell' = true := by
  intro u hu
  simp only [nats, ints, List.map_map, List.mem_map] at hu
  obtain ⟨x, _, rfl⟩ := hu
  rfl
theorem nats_append (xs ys : List Nat) : nats xs ++ nats ys = nats (xs ++ ys) := by simp [nats, ints]

theorem Owns.one (w : World) (B e : Nat) (x : Value) (hB : B ≤ w.heap.size) : Owns (w.alloc (.cells #[x] e)) B e (.slice (some ⟨w.heap.size, 0, none⟩) 1 1) [x] := by
  refine ⟨by simp, .inr ⟨w.heap.size, 1, #[x], by simp, hB, heap_alloc_new w _, by simp, by simp [maxLen], by simp, by simp⟩⟩

/-- Has a cell the number 0? -/
def zeroB (cells : List UInt8) (W : Geo) (c : Nat) : Bool := numM cells W c == 0

end Go.Proofs.Ythlbplmghjaeoae

/- Opening: the cells for which a condition holds, by the program. -/
namespace Go.Proofs.Ythlbplmghjaeoae
open Go.RowKit

/-- The numbers below n for which p holds. -/
def filtM (p : Nat → Bool) (n : Nat) : List Nat := (List.range n).filter p
theorem filtM_le (p : Nat → Bool) (n : Nat) : (filtM p n).length ≤ n := by
  refine Nat.le_trans (List.length_filter_le _ _) ?_
  rw [List.length_range]
  exact Nat.le_refl n
theorem filtM_yes {p : Nat → Bool} {k : Nat} (h : p k = true) : filtM p (k + 1) = filtM p k ++ [k] := by
  simp [filtM, List.range_succ, List.filter_append, h]
theorem filtM_no {p : Nat → Bool} {k : Nat} (h : p k = false) : filtM p (k + 1) = filtM p k := by
  simp [filtM, List.range_succ, List.filter_append, h]

set_option maxRecDepth 100000 in
set_option maxHeartbeats 1600000 in
theorem pick_any {J : Bool} (W H : Nat) (a : Option Addr) (n cap : Nat) (p : Nat → Bool) (F : Nat) (first cp : Array Value) (w : World) (hn : n ≤ 64) (hE : ∀ (args : Array Value) (w' : World), (callFunc F args).run Try.prog w' = .ok (.enter F args) w')
    (hf : ∀ (w' : World) (k : Nat), Below w.heap.size w w' → k < n → Calls Try.prog F (first.push (.int .i64 (k : Int)) ++ cp) w' fun e w'' => e = .returned (.bool (p k)) ∧ Below w'.heap.size w' w'') :
    Calls Try.prog 68 #[.agg #[.int .i64 W, .int .i64 H, .slice a n cap, .bool J], .func (.func F) first cp] w fun e w' => ∃ a' cap', e = .returned (.slice a' (filtM p n).length cap') ∧ Owns w' w.heap.size 3 (.slice a' (filtM p n).length cap') (nats (filtM p n)) ∧ Below w.heap.size w w' := by
  have HF := Lib.hid hf
  clear hf
  go_enter Try.func68, Try.ntmps68
  go_wp2_with fail
  have hb0 : Below w.heap.size w (w.alloc (.cells #[.int .i64 W, .int .i64 H, .slice a n cap, .bool J] 66)) := (Below.refl _ _).alloc (Nat.le_refl _) _
  generalize w.alloc (.cells #[.int .i64 W, .int .i64 H, .slice a n cap, .bool J] 66) = w0 at *
  go_loopw [5, 10] (fun v i wr => ∃ k : Nat, k ≤ n ∧ i = .int .i64 k ∧ Owns wr w.heap.size 3 v (nats (filtM p k)) ∧ Below w.heap.size w wr) (fun _ i _ => n - (intOf i).toNat)
  case atStart => exact ⟨0, Nat.zero_le _, rfl, Owns.nil _ _ _, hb0⟩
  case round =>
    obtain ⟨k, hk, rfl, hown, hbr⟩ := hrel
    have hle := filtM_le p k
    have hsr := hbr.size
    by_cases hlt : k < n
    · cases hp : p k with
      | true =>
        have hc := HF.out wr k hbr hlt
        rw [hp] at hc
        have Hp := Lib.hid hp
        have HC := Lib.hid hc
        clear hp hc
        go_wp2_with fail
        refine HC.out.mono ?_
        rintro e w2 ⟨rfl, hb2⟩
        go_wp2_with (at_builtin; refine wpList_app1 rfl _ _ _ rfl _ _ _ _ elemInt _ _ _ _ rfl rfl rfl (hown.later hb2) rfl (by simp; omega) (by have := hb2.size; omega) (by simp; omega) ?_; intro v1 w3 hown1 hb3 hs3)
        rw [nats_snoc, ← filtM_yes Hp.out] at hown1
        go_roundw
        case rel => exact ⟨k + 1, by omega, by go_num, hown1, (hbr.trans (hb2.mono hsr)).trans hb3⟩
        case measure => simp [intOf]; omega
      | false =>
        have hc := HF.out wr k hbr hlt
        rw [hp] at hc
        have Hp := Lib.hid hp
        have HC := Lib.hid hc
        clear hp hc
        go_wp2_with fail
        refine HC.out.mono ?_
        rintro e w2 ⟨rfl, hb2⟩
        go_wp2_with fail
        go_roundw
        case rel => exact ⟨k + 1, by omega, by go_num, by rw [filtM_no Hp.out]; exact hown.later hb2, hbr.trans (hb2.mono hsr)⟩
        case measure => simp [intOf]; omega
    · obtain rfl : k = n := by omega
      go_wp2_with fail
      go_ret
      obtain ⟨a', cap', hv⟩ := hown.shape
      simp only [nats_length] at hv
      exact ⟨a', cap', by rw [← hv]; rfl, by rw [← hv]; exact hown, hbr⟩
end Go.Proofs.Ythlbplmghjaeoae

/- Opening: the cells that a click opens, by the program. -/
namespace Go.Proofs.Ythlbplmghjaeoae
open Go.RowKit


/-- The cells that a click on a cell opens, increasing. -/
def opM (cells : List UInt8) (W : Geo) (c : Nat) : List Nat := sortM cells.length (bfs (nearM W cells.length) (zeroB cells W) [] cells.length 0 [c])
theorem opM_le (cells : List UInt8) (W : Geo) (c : Nat) : (opM cells W c).length ≤ cells.length := sortM_le _ _

end Go.Proofs.Ythlbplmghjaeoae

/- Opening: a free cell of a board, and what a click on it opens, by the program. -/
namespace Go.Proofs.Ythlbplmghjaeoae
open Go.RowKit

/-- Is there a cell, and has it no mine? -/
def freeB (cells : List UInt8) (c : Int) : Bool := if 0 ≤ c ∧ c < cells.length then !(cells.getD c.toNat 0 == 42) else false
/-- Are there a board and a free cell? -/
def freeOK (l : List UInt8) (c : Int) : Bool := freeB (gCells l) c
theorem freeOK_yes {l : List UInt8} {c : Int} (h : freeOK l c = true) : boGoodM l = true ∧ ∃ k : Nat, c = k ∧ k < (gCells l).length ∧ (gCells l).getD k 0 ≠ 42 := by
  unfold freeOK freeB at h
  split at h
  · rename_i hc
    refine ⟨?_, c.toNat, by omega, by omega, by simpa using h⟩
    by_cases hg : boGoodM l = true
    · exact hg
    · have : gCells l = [] := by rw [gCells, if_neg hg]
      rw [this] at hc
      simp at hc
      omega
  · cases h
theorem freeB_at (cells : List UInt8) (k : Nat) (hk : k < cells.length) : freeB cells k = !(cells[k] == 42) := by
  unfold freeB
  rw [if_pos ⟨by omega, by omega⟩]
  simp [List.getD, hk]
theorem freeB_out (cells : List UInt8) (c : Int) (h : c < 0 ∨ (cells.length : Int) ≤ c) : freeB cells c = false := by
  unfold freeB
  rw [if_neg (by omega)]

set_option maxRecDepth 100000 in
theorem isFree_any {J : Bool} (W H : Nat) (a : Option Addr) (cells : List UInt8) (cap : Nat) (c : Int) (w : World) (hat : At w a (byts cells)) (hl : cells.length ≤ 64) :
    Calls Try.prog 69 #[.agg #[.int .i64 W, .int .i64 H, .slice a cells.length cap, .bool J], .int .i64 c] w fun e w' => e = .returned (.bool (freeB cells c)) ∧ Below w.heap.size w w' := by
  have hb0 : Below w.heap.size w (w.alloc (.cells #[.int .i64 W, .int .i64 H, .slice a cells.length cap, .bool J] 66)) := (Below.refl _ _).alloc (Nat.le_refl _) _
  have hG0 : (w.alloc (.cells #[.int .i64 W, .int .i64 H, .slice a cells.length cap, .bool J] 66)).heap[w.heap.size]? = some (.cells #[.int .i64 W, .int .i64 H, .slice a cells.length cap, .bool J] 66 (0, 0)) := heap_alloc_new w _
  have hs0 : w.heap.size < (w.alloc (.cells #[.int .i64 W, .int .i64 H, .slice a cells.length cap, .bool J] 66)).heap.size := by simp
  have hat0 : At (w.alloc (.cells #[.int .i64 W, .int .i64 H, .slice a cells.length cap, .bool J] 66)) a (byts cells) := hat.later rfl hb0
  have hc := fun w => hasCell_any (J := J) W H a cells.length cap c w
  by_cases hin : 0 ≤ c ∧ c < cells.length
  · obtain ⟨k, rfl⟩ : ∃ k : Nat, c = k := ⟨c.toNat, by omega⟩
    have hk : k < cells.length := by omega
    have HB := Lib.hid (freeB_at cells k hk)
    rw [show inC cells.length (k : Int) = true by simp [inC]; omega] at hc
    have hm := fun w h => isMine_any (J := J) W H a cells cap k w h hk hl
    have e : Hid (((cells[k].toNat : Int) == 42) = (cells[k] == 42)) := byte_beq cells[k] 42 (by omega)
    clear hin
    go_enter Try.func69, Try.ntmps69
    go_wp2_with fail
    generalize w.alloc (.cells #[.int .i64 W, .int .i64 H, .slice a cells.length cap, .bool J] 66) = w0 at *
    refine (hc _).mono ?_
    rintro e w1 ⟨rfl, hb1⟩
    have hG1 := (hb1.block _ hs0).trans hG0
    have hf0 := cell_of_block hG1 0
    have hf1 := cell_of_block hG1 1
    have hf2 := cell_of_block hG1 2
    have hf3 := cell_of_block hG1 3
    simp at hf0 hf1 hf2 hf3
    clear hG1 hG0
    go_wp2_with fail
    refine (hm _ (hat0.later rfl hb1)).mono ?_
    rintro e w2 ⟨rfl, hb2⟩
    go_wp2_with fail
    go_ret
    exact ⟨by rw [HB.out, ← e.out]; rfl, (hb0.trans (hb1.mono (by omega))).trans (hb2.mono (by have := hb1.size; omega))⟩
  · have HB := Lib.hid (freeB_out cells c (by omega))
    rw [show inC cells.length c = false by simp [inC]; omega] at hc
    go_enter Try.func69, Try.ntmps69
    go_wp2_with fail
    generalize w.alloc (.cells #[.int .i64 W, .int .i64 H, .slice a cells.length cap, .bool J] 66) = w0 at *
    refine (hc _).mono ?_
    rintro e w1 ⟨rfl, hb1⟩
    go_wp2_with fail
    go_ret
    exact ⟨by rw [HB.out]; rfl, hb0.trans (hb1.mono (by omega))⟩


/-- What OpenedBy hands back. -/
def opOf (l : List UInt8) (c : Int) : List Nat := if freeOK l c = true then opM (gCells l) (gW l) c.toNat else []
theorem opOf_len (l : List UInt8) (c : Int) : (opOf l c).length ≤ 1048576 := by
  unfold opOf
  split
  · exact Nat.le_trans (opM_le _ _ _) (Nat.le_trans (gCells_le l) (by decide))
  · simp

end Go.Proofs.Ythlbplmghjaeoae
