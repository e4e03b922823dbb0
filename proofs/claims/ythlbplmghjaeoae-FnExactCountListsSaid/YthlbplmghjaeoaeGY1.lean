/- Y1, Y2, laid as one text. -/
import Derived.Test.YthlbplmghjaeoaeN10
import Derived.Maps.OwnSet

/- Opening: what a search over zeros reaches, and increasing lists (plain mathematics). -/
namespace Go.Proofs.Ythlbplmghjaeoae

/-- What a click reaches: over zeros to their neighbours. -/
inductive Reach (near : Nat → List Nat) (zero : Nat → Bool) (f : Nat) : Nat → Prop
  | start : Reach near zero f f
  | step {y x : Nat} : Reach near zero f y → zero y = true → x ∈ near y → Reach near zero f x

/-- New ones of a list are put behind a queue. -/
def addB (L0 : List Nat) : List Nat → List Nat → List Nat
  | q, [] => q
  | q, x :: r => if x ∈ L0 ∨ x ∈ q then addB L0 q r else addB L0 (q ++ [x]) r

/-- The search over zeros, as a queue. -/
def bfs (near : Nat → List Nat) (zero : Nat → Bool) (L0 : List Nat) : Nat → Nat → List Nat → List Nat
  | 0, _, q => q
  | m + 1, k, q => if h : k < q.length then bfs near zero L0 m (k + 1) (if zero q[k] = true then addB L0 q (near q[k]) else q) else q

theorem addB_pre (L0 : List Nat) : ∀ (r q : List Nat), ∃ t, addB L0 q r = q ++ t
  | [], q => ⟨[], by simp [addB]⟩
  | x :: r, q => by
    unfold addB
    split
    · exact addB_pre L0 r q
    · obtain ⟨t, ht⟩ := addB_pre L0 r (q ++ [x])
      exact ⟨x :: t, by rw [ht]; simp⟩
theorem addB_mem (L0 : List Nat) (x : Nat) : ∀ (r q : List Nat), x ∈ addB L0 q r ↔ x ∈ q ∨ (x ∈ r ∧ x ∉ L0)
  | [], q => by simp [addB]
  | y :: r, q => by
    unfold addB
    split
    · rename_i h
      rw [addB_mem L0 x r q]
      constructor
      · rintro (h1 | ⟨h1, h2⟩)
        · exact .inl h1
        · exact .inr ⟨List.mem_cons_of_mem _ h1, h2⟩
      · rintro (h1 | ⟨h1, h2⟩)
        · exact .inl h1
        · rcases List.mem_cons.1 h1 with rfl | h1
          · rcases h with h | h
            · exact absurd h h2
            · exact .inl h
          · exact .inr ⟨h1, h2⟩
    · rename_i h
      rw [addB_mem L0 x r (q ++ [y])]
      simp only [not_or] at h
      constructor
      · rintro (h1 | ⟨h1, h2⟩)
        · rcases List.mem_append.1 h1 with h1 | h1
          · exact .inl h1
          · obtain rfl := List.mem_singleton.1 h1
            exact .inr ⟨List.mem_cons_self, h.1⟩
        · exact .inr ⟨List.mem_cons_of_mem _ h1, h2⟩
      · rintro (h1 | ⟨h1, h2⟩)
        · exact .inl (List.mem_append.2 (.inl h1))
        · rcases List.mem_cons.1 h1 with rfl | h1
          · exact .inl (List.mem_append.2 (.inr (List.mem_singleton.2 rfl)))
          · exact .inr ⟨h1, h2⟩
theorem addB_nodup (L0 : List Nat) : ∀ (r q : List Nat), q.Nodup → (addB L0 q r).Nodup
  | [], _, h => h
  | x :: r, q, h => by
    unfold addB
    split
    · exact addB_nodup L0 r q h
    · rename_i hx
      simp only [not_or] at hx
      refine addB_nodup L0 r _ ?_
      rw [List.nodup_append]
      exact ⟨h, by simp, by intro a ha b hb e; simp at hb; subst hb; subst e; exact hx.2 ha⟩
/-- The numbers below n that are on a list, increasing. -/
def sortM (n : Nat) (L : List Nat) : List Nat := (List.range n).filter fun x => decide (x ∈ L)
theorem mem_sortM {n : Nat} {L : List Nat} (h : ∀ x ∈ L, x < n) (x : Nat) : x ∈ sortM n L ↔ x ∈ L := by
  simp only [sortM, List.mem_filter, List.mem_range, decide_eq_true_eq]
  exact ⟨fun h => h.2, fun hx => ⟨h x hx, hx⟩⟩
theorem sortM_rise (n : Nat) (L : List Nat) : (sortM n L).Pairwise (· < ·) := List.Pairwise.filter _ List.pairwise_lt_range
theorem sortM_le (n : Nat) (L : List Nat) : (sortM n L).length ≤ n := by
  refine Nat.le_trans (List.length_filter_le _ _) ?_
  rw [List.length_range]
  exact Nat.le_refl n
theorem sortM_congr {n : Nat} {L L' : List Nat} (h : ∀ x, x ∈ L ↔ x ∈ L') : sortM n L = sortM n L' := by
  unfold sortM
  congr 1
  funext x
  simp [h x]
/-- Two increasing lists with the same numbers are one. -/
theorem rise_ext {a b : List Nat} (ha : a.Pairwise (· < ·)) (hb : b.Pairwise (· < ·)) (h : ∀ x, x ∈ a ↔ x ∈ b) : a = b := by
  have hp : a.Perm b := (List.perm_ext_iff_of_nodup (ha.imp (fun h => Nat.ne_of_lt h)) (hb.imp (fun h => Nat.ne_of_lt h))).2 h
  exact hp.eq_of_pairwise (fun x y _ _ h1 h2 => by omega) ha hb
theorem rise_sortM {n : Nat} {a : List Nat} (ha : a.Pairwise (· < ·)) (h : ∀ x ∈ a, x < n) : a = sortM n a :=
  rise_ext ha (sortM_rise _ _) (fun x => (mem_sortM h x).symm)

/-- Different numbers below n are at most n. -/
theorem sortM_perm {n : Nat} {q : List Nat} (h : q.Nodup) (hq : ∀ x ∈ q, x < n) : (sortM n q).Perm q :=
  (List.perm_ext_iff_of_nodup ((sortM_rise n q).imp (fun h => Nat.ne_of_lt h)) h).2 (fun x => mem_sortM hq x)
theorem sortM_len {n : Nat} {q : List Nat} (h : q.Nodup) (hq : ∀ x ∈ q, x < n) : (sortM n q).length = q.length := (sortM_perm h hq).length_eq
theorem nodup_le {n : Nat} {q : List Nat} (h : q.Nodup) (hq : ∀ x ∈ q, x < n) : q.length ≤ n := by
  rw [← sortM_len h hq]; exact sortM_le n q

section
variable {near : Nat → List Nat} {zero : Nat → Bool} {L0 : List Nat} {n f : Nat}

/-- What the search keeps to: a queue whose first k ones are done. -/
structure Bq (near : Nat → List Nat) (zero : Nat → Bool) (L0 : List Nat) (n f k : Nat) (q : List Nat) : Prop where
  nodup : q.Nodup
  lt : ∀ x ∈ q, x < n
  reach : ∀ x ∈ q, Reach near zero f x
  first : f ∈ q
  done : ∀ j, (h : j < q.length) → j < k → zero q[j] = true → ∀ x ∈ near q[j], x ∈ L0 ∨ x ∈ q
theorem Bq.start (hf : f < n) : Bq near zero L0 n f 0 [f] :=
  ⟨by simp, by simpa using hf, by intro x hx; simp at hx; subst hx; exact .start, by simp, by intro j h hj; omega⟩
theorem Bq.next {k : Nat} {q : List Nat} (hn : ∀ y, ∀ x ∈ near y, x < n) (h : Bq near zero L0 n f k q) (hk : k < q.length) : Bq near zero L0 n f (k + 1) (if zero q[k] = true then addB L0 q (near q[k]) else q) := by
  by_cases hz : zero q[k] = true
  · rw [if_pos hz]
    refine ⟨addB_nodup _ _ _ h.nodup, ?_, ?_, ?_, ?_⟩
    · intro x hx
      rcases (addB_mem _ _ _ _).1 hx with hx | hx
      · exact h.lt x hx
      · exact hn _ x hx.1
    · intro x hx
      rcases (addB_mem _ _ _ _).1 hx with hx | hx
      · exact h.reach x hx
      · exact .step (h.reach _ (List.getElem_mem hk)) hz hx.1
    · exact (addB_mem _ _ _ _).2 (.inl h.first)
    · intro j hj hjk hzj x hx
      obtain ⟨t, ht⟩ := addB_pre L0 (near q[k]) q
      have hjq : j < q.length := by omega
      have e : (addB L0 q (near q[k]))[j] = q[j] := by simp only [ht]; rw [List.getElem_append_left hjq]
      rw [e] at hzj hx
      by_cases hx0 : x ∈ L0
      · exact .inl hx0
      · refine .inr ((addB_mem _ _ _ _).2 ?_)
        by_cases hjk2 : j < k
        · rcases h.done j hjq hjk2 hzj x hx with h1 | h1
          · exact absurd h1 hx0
          · exact .inl h1
        · obtain rfl : j = k := by omega
          exact .inr ⟨hx, hx0⟩
  · rw [if_neg hz]
    refine ⟨h.nodup, h.lt, h.reach, h.first, ?_⟩
    intro j hj hjk hzj
    by_cases hjk2 : j < k
    · exact h.done j hj hjk2 hzj
    · obtain rfl : j = k := by omega
      exact absurd hzj hz
theorem Bq.end (hn : ∀ y, ∀ x ∈ near y, x < n) : ∀ (m k : Nat) (q : List Nat), n ≤ m + k → Bq near zero L0 n f k q → ∃ k', (bfs near zero L0 m k q).length ≤ k' ∧ Bq near zero L0 n f k' (bfs near zero L0 m k q)
  | 0, k, q, hm, h => ⟨k, by have := nodup_le h.nodup h.lt; unfold bfs; omega, h⟩
  | m + 1, k, q, hm, h => by
    unfold bfs
    by_cases hk : k < q.length
    · rw [dif_pos hk]
      exact Bq.end hn m (k + 1) _ (by omega) (h.next hn hk)
    · rw [dif_neg hk]
      exact ⟨k, by omega, h⟩
/-- What was open is closed under clicks on zeros. -/
def Closed (near : Nat → List Nat) (zero : Nat → Bool) (L : List Nat) : Prop := ∀ y ∈ L, zero y = true → ∀ x ∈ near y, x ∈ L
theorem bfs_closed (hn : ∀ y, ∀ x ∈ near y, x < n) (hf : f < n) (hc : Closed near zero L0) : Closed near zero (L0 ++ bfs near zero L0 n 0 [f]) := by
  obtain ⟨k', hk', h⟩ := Bq.end (L0 := L0) hn n 0 [f] (by omega) (Bq.start (near := near) (zero := zero) hf)
  intro y hy hz x hx
  rcases List.mem_append.1 hy with hy | hy
  · exact List.mem_append.2 (.inl (hc y hy hz x hx))
  · obtain ⟨j, hj, rfl⟩ := List.getElem_of_mem hy
    exact List.mem_append.2 (h.done j hj (by omega) hz x hx)
theorem bfs_mem (hn : ∀ y, ∀ x ∈ near y, x < n) (hf : f < n) (hc : Closed near zero L0) (x : Nat) : x ∈ L0 ++ bfs near zero L0 n 0 [f] ↔ x ∈ L0 ∨ Reach near zero f x := by
  obtain ⟨k', hk', h⟩ := Bq.end (L0 := L0) hn n 0 [f] (by omega) (Bq.start (near := near) (zero := zero) hf)
  constructor
  · intro hx
    rcases List.mem_append.1 hx with hx | hx
    · exact .inl hx
    · exact .inr (h.reach x hx)
  · rintro (hx | hx)
    · exact List.mem_append.2 (.inl hx)
    · induction hx with
      | start => exact List.mem_append.2 (.inr h.first)
      | step _ hz hx ih => exact bfs_closed hn hf hc _ ih hz _ hx
theorem bfs_lt (hn : ∀ y, ∀ x ∈ near y, x < n) (hf : f < n) : ∀ x ∈ bfs near zero L0 n 0 [f], x < n := by
  obtain ⟨k', hk', h⟩ := Bq.end (L0 := L0) hn n 0 [f] (by omega) (Bq.start (near := near) (zero := zero) hf)
  exact h.lt
theorem bfs_len (hn : ∀ y, ∀ x ∈ near y, x < n) (hf : f < n) : (bfs near zero L0 n 0 [f]).length ≤ n := by
  obtain ⟨k', hk', h⟩ := Bq.end (L0 := L0) hn n 0 [f] (by omega) (Bq.start (near := near) (zero := zero) hf)
  exact nodup_le h.nodup h.lt
theorem bfs_nodup (hn : ∀ y, ∀ x ∈ near y, x < n) (hf : f < n) : (bfs near zero L0 n 0 [f]).Nodup := by
  obtain ⟨k', hk', h⟩ := Bq.end (L0 := L0) hn n 0 [f] (by omega) (Bq.start (near := near) (zero := zero) hf)
  exact h.nodup
theorem closed_nil : Closed near zero [] := by intro y hy; simp at hy
theorem bfs0_mem (hn : ∀ y, ∀ x ∈ near y, x < n) (hf : f < n) (x : Nat) : x ∈ bfs near zero [] n 0 [f] ↔ Reach near zero f x := by
  have := bfs_mem (L0 := []) (zero := zero) hn hf closed_nil x
  simpa using this
end

/-- A number put into an increasing list. -/
def putM : List Nat → Nat → List Nat
  | [], x => [x]
  | y :: r, x => if y < x then y :: putM r x else if y = x then y :: r else x :: y :: r
theorem mem_putM (x z : Nat) : ∀ l : List Nat, z ∈ putM l x ↔ z = x ∨ z ∈ l
  | [] => by simp [putM]
  | y :: r => by
    unfold putM
    by_cases h1 : y < x
    · rw [if_pos h1, List.mem_cons, mem_putM x z r, List.mem_cons]
      constructor
      · rintro (h | h | h)
        · exact .inr (.inl h)
        · exact .inl h
        · exact .inr (.inr h)
      · rintro (h | h | h)
        · exact .inr (.inl h)
        · exact .inl h
        · exact .inr (.inr h)
    · rw [if_neg h1]
      by_cases h2 : y = x
      · rw [if_pos h2]; subst h2
        constructor
        · exact .inr
        · rintro (h | h)
          · rw [h]; exact List.mem_cons_self
          · exact h
      · rw [if_neg h2]; exact List.mem_cons
theorem putM_rise (x : Nat) : ∀ l : List Nat, l.Pairwise (· < ·) → (putM l x).Pairwise (· < ·)
  | [], _ => by simp [putM]
  | y :: r, h => by
    obtain ⟨h1, h2⟩ := List.pairwise_cons.1 h
    unfold putM
    by_cases c1 : y < x
    · rw [if_pos c1]
      refine List.pairwise_cons.2 ⟨?_, putM_rise x r h2⟩
      intro z hz
      rcases (mem_putM x z r).1 hz with rfl | hz
      · exact c1
      · exact h1 z hz
    · rw [if_neg c1]
      by_cases c2 : y = x
      · rw [if_pos c2]; exact h
      · rw [if_neg c2]
        refine List.pairwise_cons.2 ⟨?_, h⟩
        intro z hz
        rcases List.mem_cons.1 hz with rfl | hz
        · omega
        · have := h1 z hz; omega
theorem putM_sort {n x : Nat} {L : List Nat} (h : ∀ y ∈ L, y < n) (hx : x < n) : putM (sortM n L) x = sortM n (L ++ [x]) := by
  refine rise_ext (putM_rise _ _ (sortM_rise _ _)) (sortM_rise _ _) (fun z => ?_)
  have h2 : ∀ y ∈ L ++ [x], y < n := by
    intro y hy
    rcases List.mem_append.1 hy with hy | hy
    · exact h y hy
    · rw [List.mem_singleton.1 hy]; exact hx
  rw [mem_putM, mem_sortM h, mem_sortM h2, List.mem_append, List.mem_singleton]
  exact Or.comm
theorem putM_len (x : Nat) : ∀ l : List Nat, (putM l x).length ≤ l.length + 1
  | [] => by simp [putM]
  | y :: r => by
    have := putM_len x r
    unfold putM
    split
    · simp; omega
    · split <;> simp
theorem putM_step (l : List Nat) (x k : Nat) (hk : k < l.length) (h : l[k] < x) : l.take k ++ putM (l.drop k) x = l.take (k + 1) ++ putM (l.drop (k + 1)) x := by
  rw [List.drop_eq_getElem_cons hk, putM, if_pos h, List.take_succ_eq_append_getElem hk, List.append_assoc]
  rfl
theorem putM_there (l : List Nat) (x k : Nat) (hk : k < l.length) (h : l[k] = x) : l.take k ++ putM (l.drop k) x = l := by
  rw [List.drop_eq_getElem_cons hk, putM, if_neg (by omega), if_pos h, ← List.drop_eq_getElem_cons hk, List.take_append_drop]
theorem putM_here (l : List Nat) (x k : Nat) (hk : k ≤ l.length) (h : ∀ hk : k < l.length, x < l[k]) : l.take k ++ putM (l.drop k) x = (l.take k ++ [x]) ++ l.drop k := by
  by_cases hk2 : k < l.length
  · rw [List.drop_eq_getElem_cons hk2, putM, if_neg (by have := h hk2; omega), if_neg (by have := h hk2; omega), List.append_assoc]
    rfl
  · rw [List.drop_of_length_le (by omega)]
    simp [putM]
end Go.Proofs.Ythlbplmghjaeoae

/- Opening: a map of cells that the call made, each set true. -/
namespace Go.Proofs.Ythlbplmghjaeoae
open Go.RowKit

theorem addB_push (L0 : List Nat) : ∀ (r q s : List Nat), addB L0 (q ++ s) r = q ++ addB (L0 ++ q) s r
  | [], q, s => by simp [addB]
  | x :: r, q, s => by
    have h : (x ∈ L0 ∨ x ∈ q ++ s) ↔ (x ∈ L0 ++ q ∨ x ∈ s) := by simp only [List.mem_append]; exact ⟨fun h => h.elim (fun h => .inl (.inl h)) (fun h => h.elim (fun h => .inl (.inr h)) .inr), fun h => h.elim (fun h => h.elim .inl (fun h => .inr (.inl h))) (fun h => .inr (.inr h))⟩
    unfold addB
    by_cases c : x ∈ L0 ∨ x ∈ q ++ s
    · rw [if_pos c, if_pos (h.1 c)]; exact addB_push L0 r q s
    · rw [if_neg c, if_neg (fun e => c (h.2 e)), List.append_assoc]; exact addB_push L0 r q (s ++ [x])
theorem addB_from (L0 q r : List Nat) : addB L0 q r = q ++ addB (L0 ++ q) [] r := by
  have := addB_push L0 r q []
  simpa using this
theorem bfs_stop (near : Nat → List Nat) (zero : Nat → Bool) (L0 q : List Nat) : ∀ m, bfs near zero L0 m q.length q = q
  | 0 => rfl
  | m + 1 => by rw [bfs, dif_neg (by omega)]
theorem addB_len (L0 : List Nat) : ∀ r q : List Nat, (addB L0 q r).length ≤ q.length + r.length
  | [], q => by simp [addB]
  | x :: r, q => by
    unfold addB
    split
    · have := addB_len L0 r q; simp; omega
    · have := addB_len L0 r (q ++ [x]); simp at this; simp; omega

/-- All but block b is as it was; new blocks may have come. -/
def Touch (b : Nat) (w w' : World) : Prop := w.grownBy w' (some b)
theorem Touch.refl (b : Nat) (w : World) : Touch b w w := ⟨rfl, rfl, rfl, Nat.le_refl _, fun _ _ _ => rfl⟩
theorem Touch.size {b : Nat} {w w' : World} (h : Touch b w w') : w.heap.size ≤ w'.heap.size := World.grownBy.size h
theorem Touch.trans {b : Nat} {w w' w'' : World} (h : Touch b w w') (h' : Touch b w' w'') : Touch b w w'' :=
  ⟨h'.os.trans h.os, h'.tape.trans h.tape, h'.output.trans h.output, Nat.le_trans h.size h'.size,
    fun k hk hne => (h'.block k (Nat.lt_of_lt_of_le hk h.size) hne).trans (h.block k hk hne)⟩
theorem Touch.of {b : Nat} {w w' : World} (h : Below w.heap.size w w') : Touch b w w' := ⟨h.os, h.tape, h.output, h.size, fun k hk _ => h.block k hk⟩
theorem Touch.then {b C : Nat} {w w' w'' : World} (h : Touch b w w') (hb : Below C w' w'') (hC : w.heap.size ≤ C) : Touch b w w'' :=
  ⟨hb.os.trans h.os, hb.tape.trans h.tape, hb.output.trans h.output, Nat.le_trans h.size hb.size, fun k hk hne => (hb.block k (by omega)).trans (h.block k hk hne)⟩
theorem Touch.below {b C : Nat} {w w' : World} (h : Touch b w w') (hC : C ≤ b) (hs : b < w.heap.size) : Below C w w' :=
  ⟨h.os, h.tape, h.output, h.size, fun k hk => h.block k (by omega) (by simp; omega)⟩
theorem Owns.touch {b B e : Nat} {w w' : World} {v : Value} {xs : List Value} (h : Owns w B e v xs) (ht : Touch b w w') (hb : b < B) : Owns w' B e v xs := by
  have hl := Owns.lt h
  refine World.ownsRow.kept h ht ?_
  cases hv : v.ownBlock with
  | none => exact .inl rfl
  | some k => exact .inr (by have := hl k hv; simp; omega)
theorem cells_of {w : World} {p : Addr} {v : Value} (h : w.cell? p = some v) : ∃ cur e f, w.heap[p.block]? = some (.cells cur e f) := by
  unfold World.cell? at h
  split at h
  · exact ⟨_, _, _, by assumption⟩
  · cases h
theorem At.touch {b : Nat} {w w' : World} {a : Option Addr} {xs : List Value} (h : At w a xs) (ht : Touch b w w') (hb : ∀ cur e f, w.heap[b]? ≠ some (.cells cur e f)) : At w' a xs := by
  intro k hk
  obtain ⟨g, off, ha, hc⟩ := h k hk
  refine ⟨g, off, ha, World.grownBy.cell ht hc ?_⟩
  intro e
  simp only [Option.some.injEq] at e
  subst e
  have hlt := World.block_lt_of_cell? w _ hc
  obtain ⟨cur, t, f, hh⟩ := cells_of hc
  exact hb cur t f hh

def keyI (c : Nat) : Lit := .int .i64 (c : Int)
theorem keyI_inj {a b : Nat} (h : keyI a = keyI b) : a = b := by
  have e : (a : Int) = (b : Int) := by simpa [keyI] using h
  omega
theorem keyI_is (c : Nat) : WideAt.IsKeyLit (keyI c) := trivial
theorem keyI_wf (c : Nat) (h : c < 1099511627776) : (keyI c).wf = true := by
  have h1 : IntKind.i64.min = -9223372036854775808 := rfl
  have h2 : IntKind.i64.max = 9223372036854775807 := rfl
  show (decide (IntKind.i64.min ≤ (c : Int)) && decide ((c : Int) ≤ IntKind.i64.max)) = true
  rw [h1, h2, Bool.and_eq_true, decide_eq_true_eq, decide_eq_true_eq]
  omega

/-- The datum of a map of numbers, each set true. -/
def setI (L : List Nat) : DataW Unit := Maps.setOf (.lit (.bool true)) (L.map keyI)
theorem setI_snoc (L : List Nat) (c : Nat) : setI (L ++ [c]) = (setI L).put (keyI c) (.lit (.bool true)) := by
  unfold setI
  rw [List.map_append]
  exact Maps.setOf_snoc _ _ _
theorem fold_at (c : Nat) (z : DataW Unit) : ∀ (L : List Nat) (m : DataW Unit), Maps.IsMap m →
    ((L.map keyI).foldl (fun m x => m.put x (.lit (.bool true))) m).atKey (keyI c) z = if c ∈ L then .lit (.bool true) else m.atKey (keyI c) z
  | [], _, _ => by simp
  | x :: r, m, hm => by
    rw [List.map_cons, List.foldl_cons, fold_at c z r _ (hm.put _ _)]
    by_cases h1 : c ∈ r
    · rw [if_pos h1, if_pos (List.mem_cons_of_mem _ h1)]
    · rw [if_neg h1]
      by_cases h2 : c = x
      · subst h2
        rw [if_pos List.mem_cons_self, Maps.atKey_put_same hm (keyI_is _)]
      · rw [if_neg (by rw [List.mem_cons]; exact fun e => e.elim h2 h1), Maps.atKey_put_other (fun e => h2 (keyI_inj e))]
theorem setI_at (L : List Nat) (c : Nat) (z : DataW Unit) : (setI L).atKey (keyI c) z = if c ∈ L then .lit (.bool true) else z := by
  unfold setI Maps.setOf
  rw [fold_at c z L _ Maps.isMap_empty]
  rfl

/-- Block b is a map of the cells L, each true. -/
def Marks (w : World) (b : Nat) (L : List Nat) : Prop := w.ownsMap Try.prog 3 (plainElem (H := Unit) Try.prog 4) b L.length (setI L)
theorem Marks.made (w : World) : Marks (w.alloc (.map #[] 0)) w.heap.size [] := World.ownsMap_made _ _ _ _
theorem Marks.lt {w : World} {b : Nat} {L : List Nat} (h : Marks w b L) : b < w.heap.size := World.ownsMap.lt h
theorem Marks.nocells {w : World} {b : Nat} {L : List Nat} (h : Marks w b L) : ∀ cur e f, w.heap[b]? ≠ some (.cells cur e f) := by
  intro cur e f hc
  obtain ⟨es, clock, hb, _⟩ := h
  rw [hb] at hc
  cases hc
theorem Marks.kept {w w' : World} {b : Nat} {L : List Nat} (h : Marks w b L) {C : Nat} (hC : b < C) (hb : Below C w w') : Marks w' b L := by
  obtain ⟨es, clock, h1, h2⟩ := h
  exact ⟨es, clock, by rw [hb.block b hC]; exact h1, h2⟩
theorem Marks.later {w w' : World} {b : Nat} {L : List Nat} (h : Marks w b L) (hb : Below w.heap.size w w') : Marks w' b L := h.kept h.lt hb

theorem keyedI : Maps.Keyed Try.prog 3 := Maps.int_keyed Try.underlying3
theorem keyI_of (c : Nat) (h : c < 1099511627776) : keyOf Try.prog 3 (.int .i64 (c : Int)) = some (keyI c) := Maps.keyOf_int_mk Try.underlying3 (keyI_wf c h)
theorem zeroBool (w : World) : (zeroValue 4).run Try.prog w = .ok (.bool false) w := by kernel_rfl

theorem plainElem_bool_inv {P : Program} {e : TypeId} (he : P.underlying e = some .bool) {v : Value} {z : DataW Unit × List MemPlace} (h : plainElem P e v = some z) : ∃ x, v = .bool x ∧ z = (.lit (.bool x), []) := by
  unfold plainElem at h
  rw [he] at h
  cases v <;> simp at h
  exact ⟨_, rfl, h.symm⟩

/-- Is a cell in the map? -/
theorem wpList_mark_look {ops : Array Oper} {rest : List Oper} {o : Oper} {a : Act} {Q : Exit → Act → World → Prop} {w : World} (hg : o.guard = none) (m x : Operand)
    (hop : o.op = Op.lookup 79 m x false) (b : Nat) (L : List Nat) (hm : a.eval m = .map (some b)) (hM : Marks w b L) (c : Nat) (hx : a.eval x = .int .i64 (c : Int)) (hc : c < 1099511627776) (v : Bool) (hv : decide (c ∈ L) = v)
    (hK : wpList Try.prog ops Q rest (a.put o.dst (.bool v)) w) : wpList Try.prog ops Q (o :: rest) a w := by
  refine wpList_plain hg fun K' hK' => ?_
  obtain ⟨v', ps, hrun, hR⟩ := World.ownsMap.lookup hM keyedI Try.underlying79 (zeroBool w) (zd := .lit (.bool false)) (zp := []) (plainElem_bool Try.underlying4 false) (keyI_of c hc)
  rw [setI_at] at hR
  obtain ⟨y, rfl, hy⟩ := plainElem_bool_inv Try.underlying4 hR
  obtain rfl : y = v := by
    subst hv
    have hy1 := congrArg Prod.fst hy
    by_cases hcL : c ∈ L
    · rw [if_pos hcL] at hy1
      simp [hcL] at hy1 ⊢; exact hy1
    · rw [if_neg hcL] at hy1
      simp [hcL] at hy1 ⊢; exact hy1
  unfold Oper.wp
  simp [execOp, hop, hm, hx, hrun, Result.andThen]
  exact hK' _ _ hK

/-- A cell is set true. -/
theorem wpList_mark_put {ops : Array Oper} {rest : List Oper} {o : Oper} {a : Act} {Q : Exit → Act → World → Prop} {w : World} (hg : o.guard = none) (m x v : Operand)
    (hop : o.op = Op.mapUpdate 79 m x v) (b : Nat) (L : List Nat) (hm : a.eval m = .map (some b)) (hM : Marks w b L) (c : Nat) (hx : a.eval x = .int .i64 (c : Int)) (hc : c < 1099511627776) (hv : a.eval v = .bool true) (hL : L.length < 1099511627776)
    (hK : ∀ w', Marks w' b (L ++ [c]) → Touch b w w' → wpList Try.prog ops Q rest (a.put o.dst undef) w') : wpList Try.prog ops Q (o :: rest) a w := by
  refine wpList_mapUpdate_own w hg m x v _ hop _ _ keyedI Try.underlying79 _ b L.length (setI L) hm hM (by unfold maxLen; omega) _ _ (keyI c) hx hv (keyI_of c hc) (.lit (.bool true)) [] (plainElem_bool Try.underlying4 true) ?_
  intro w' h1 h2
  refine hK w' ?_ h2
  unfold Marks
  rw [setI_snoc, List.length_append]
  exact h1
end Go.Proofs.Ythlbplmghjaeoae
