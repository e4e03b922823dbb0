/- Y1, Y2, Y3, Y4, Y5, Y6, Y7, laid as one text. -/
import Derived.Test.YtndmkbkmfonefacDoorN10
import Derived.Maps.OwnSet
import Derived.Outline
import Derived.StillTailTactics
import Derived.Maps.AppendAt
import Derived.WalkMore
import Derived.Deep.AppendLies
import Derived.Deep.RegionLaw
import Derived.Test.YtndmkbkmfonefacDoorGN1

/- Opening: what a search over zeros reaches, and increasing lists (plain mathematics). -/
namespace Go.Proofs.YtndmkbkmfonefacDoor

/-- What a click reaches: over zeros to their neighbours. -/
inductive Reach (near : Nat → List Nat) (zero : Nat → Bool) (f : Nat) : Nat → Prop
  | start : Reach near zero f f
  | step {y x : Nat} : Reach near zero f y → zero y = true → x ∈ near y → Reach near zero f x

/-- New ones of a list are put behind a queue. -/
def addB (L0 : List Nat) : List Nat → List Nat → List Nat
  | q, [] => q
  | q, x :: r => if x ∈ L0 ∨ x ∈ q then addB L0 q r else addB L0 (q ++ [x]) r

/-- The search over zeros, as a queue. -/
def bfs (near : Nat → List Nat) (zero : Nat → Bool) (L0 : List Nat) : Nat → Nat → List Nat → List Nat
  | 0, _, q => q
  | m + 1, k, q => if h : k < q.length then bfs near zero L0 m (k + 1) (if zero q[k] = true then addB L0 q (near q[k]) else q) else q

theorem addB_pre (L0 : List Nat) : ∀ (r q : List Nat), ∃ t, addB L0 q r = q ++ t
  | [], q => ⟨[], by simp [addB]⟩
  | x :: r, q => by
    unfold addB
    split
    · exact addB_pre L0 r q
    · obtain ⟨t, ht⟩ := addB_pre L0 r (q ++ [x])
      exact ⟨x :: t, by rw [ht]; simp⟩
theorem addB_mem (L0 : List Nat) (x : Nat) : ∀ (r q : List Nat), x ∈ addB L0 q r ↔ x ∈ q ∨ (x ∈ r ∧ x ∉ L0)
  | [], q => by simp [addB]
  | y :: r, q => by
    unfold addB
    split
    · rename_i h
      rw [addB_mem L0 x r q]
      constructor
      · rintro (h1 | ⟨h1, h2⟩)
        · exact .inl h1
        · exact .inr ⟨List.mem_cons_of_mem _ h1, h2⟩
      · rintro (h1 | ⟨h1, h2⟩)
        · exact .inl h1
        · rcases List.mem_cons.1 h1 with rfl | h1
          · rcases h with h | h
            · exact absurd h h2
            · exact .inl h
          · exact .inr ⟨h1, h2⟩
    · rename_i h
      rw [addB_mem L0 x r (q ++ [y])]
      simp only [not_or] at h
      constructor
      · rintro (h1 | ⟨h1, h2⟩)
        · rcases List.mem_append.1 h1 with h1 | h1
          · exact .inl h1
          · obtain rfl := List.mem_singleton.1 h1
            exact .inr ⟨List.mem_cons_self, h.1⟩
        · exact .inr ⟨List.mem_cons_of_mem _ h1, h2⟩
      · rintro (h1 | ⟨h1, h2⟩)
        · exact .inl (List.mem_append.2 (.inl h1))
        · rcases List.mem_cons.1 h1 with rfl | h1
          · exact .inl (List.mem_append.2 (.inr (List.mem_singleton.2 rfl)))
          · exact .inr ⟨h1, h2⟩
theorem addB_nodup (L0 : List Nat) : ∀ (r q : List Nat), q.Nodup → (addB L0 q r).Nodup
  | [], _, h => h
  | x :: r, q, h => by
    unfold addB
    split
    · exact addB_nodup L0 r q h
    · rename_i hx
      simp only [not_or] at hx
      refine addB_nodup L0 r _ ?_
      rw [List.nodup_append]
      exact ⟨h, by simp, by intro a ha b hb e; simp at hb; subst hb; subst e; exact hx.2 ha⟩
/-- The numbers below n that are on a list, increasing. -/
def sortM (n : Nat) (L : List Nat) : List Nat := (List.range n).filter fun x => decide (x ∈ L)
theorem mem_sortM {n : Nat} {L : List Nat} (h : ∀ x ∈ L, x < n) (x : Nat) : x ∈ sortM n L ↔ x ∈ L := by
  simp only [sortM, List.mem_filter, List.mem_range, decide_eq_true_eq]
  exact ⟨fun h => h.2, fun hx => ⟨h x hx, hx⟩⟩
theorem sortM_rise (n : Nat) (L : List Nat) : (sortM n L).Pairwise (· < ·) := List.Pairwise.filter _ List.pairwise_lt_range
theorem sortM_le (n : Nat) (L : List Nat) : (sortM n L).length ≤ n := by
  refine Nat.le_trans (List.length_filter_le _ _) ?_
  rw [List.length_range]
  exact Nat.le_refl n
theorem sortM_congr {n : Nat} {L L' : List Nat} (h : ∀ x, x ∈ L ↔ x ∈ L') : sortM n L = sortM n L' := by
  unfold sortM
  congr 1
  funext x
  simp [h x]
/-- Two increasing lists with the same numbers are one. -/
theorem rise_ext {a b : List Nat} (ha : a.Pairwise (· < ·)) (hb : b.Pairwise (· < ·)) (h : ∀ x, x ∈ a ↔ x ∈ b) : a = b := by
  have hp : a.Perm b := (List.perm_ext_iff_of_nodup (ha.imp (fun h => Nat.ne_of_lt h)) (hb.imp (fun h => Nat.ne_of_lt h))).2 h
  exact hp.eq_of_pairwise (fun x y _ _ h1 h2 => by omega) ha hb
theorem rise_sortM {n : Nat} {a : List Nat} (ha : a.Pairwise (· < ·)) (h : ∀ x ∈ a, x < n) : a = sortM n a :=
  rise_ext ha (sortM_rise _ _) (fun x => (mem_sortM h x).symm)

/-- Different numbers below n are at most n. -/
theorem sortM_perm {n : Nat} {q : List Nat} (h : q.Nodup) (hq : ∀ x ∈ q, x < n) : (sortM n q).Perm q :=
  (List.perm_ext_iff_of_nodup ((sortM_rise n q).imp (fun h => Nat.ne_of_lt h)) h).2 (fun x => mem_sortM hq x)
theorem sortM_len {n : Nat} {q : List Nat} (h : q.Nodup) (hq : ∀ x ∈ q, x < n) : (sortM n q).length = q.length := (sortM_perm h hq).length_eq
theorem nodup_le {n : Nat} {q : List Nat} (h : q.Nodup) (hq : ∀ x ∈ q, x < n) : q.length ≤ n := by
  rw [← sortM_len h hq]; exact sortM_le n q

section
variable {near : Nat → List Nat} {zero : Nat → Bool} {L0 : List Nat} {n f : Nat}

/-- What the search keeps to: a queue whose first k ones are done. -/
structure Bq (near : Nat → List Nat) (zero : Nat → Bool) (L0 : List Nat) (n f k : Nat) (q : List Nat) : Prop where
  nodup : q.Nodup
  lt : ∀ x ∈ q, x < n
  reach : ∀ x ∈ q, Reach near zero f x
  first : f ∈ q
  done : ∀ j, (h : j < q.length) → j < k → zero q[j] = true → ∀ x ∈ near q[j], x ∈ L0 ∨ x ∈ q
theorem Bq.start (hf : f < n) : Bq near zero L0 n f 0 [f] :=
  ⟨by simp, by simpa using hf, by intro x hx; simp at hx; subst hx; exact .start, by simp, by intro j h hj; omega⟩
theorem Bq.next {k : Nat} {q : List Nat} (hn : ∀ y, ∀ x ∈ near y, x < n) (h : Bq near zero L0 n f k q) (hk : k < q.length) : Bq near zero L0 n f (k + 1) (if zero q[k] = true then addB L0 q (near q[k]) else q) := by
  by_cases hz : zero q[k] = true
  · rw [if_pos hz]
    refine ⟨addB_nodup _ _ _ h.nodup, ?_, ?_, ?_, ?_⟩
    · intro x hx
      rcases (addB_mem _ _ _ _).1 hx with hx | hx
      · exact h.lt x hx
      · exact hn _ x hx.1
    · intro x hx
      rcases (addB_mem _ _ _ _).1 hx with hx | hx
      · exact h.reach x hx
      · exact .step (h.reach _ (List.getElem_mem hk)) hz hx.1
    · exact (addB_mem _ _ _ _).2 (.inl h.first)
    · intro j hj hjk hzj x hx
      obtain ⟨t, ht⟩ := addB_pre L0 (near q[k]) q
      have hjq : j < q.length := by omega
      have e : (addB L0 q (near q[k]))[j] = q[j] := by simp only [ht]; rw [List.getElem_append_left hjq]
      rw [e] at hzj hx
      by_cases hx0 : x ∈ L0
      · exact .inl hx0
      · refine .inr ((addB_mem _ _ _ _).2 ?_)
        by_cases hjk2 : j < k
        · rcases h.done j hjq hjk2 hzj x hx with h1 | h1
          · exact absurd h1 hx0
          · exact .inl h1
        · obtain rfl : j = k := by omega
          exact .inr ⟨hx, hx0⟩
  · rw [if_neg hz]
    refine ⟨h.nodup, h.lt, h.reach, h.first, ?_⟩
    intro j hj hjk hzj
    by_cases hjk2 : j < k
    · exact h.done j hj hjk2 hzj
    · obtain rfl : j = k := by omega
      exact absurd hzj hz
theorem Bq.end (hn : ∀ y, ∀ x ∈ near y, x < n) : ∀ (m k : Nat) (q : List Nat), n ≤ m + k → Bq near zero L0 n f k q → ∃ k', (bfs near zero L0 m k q).length ≤ k' ∧ Bq near zero L0 n f k' (bfs near zero L0 m k q)
  | 0, k, q, hm, h => ⟨k, by have := nodup_le h.nodup h.lt; unfold bfs; omega, h⟩
  | m + 1, k, q, hm, h => by
    unfold bfs
    by_cases hk : k < q.length
    · rw [dif_pos hk]
      exact Bq.end hn m (k + 1) _ (by omega) (h.next hn hk)
    · rw [dif_neg hk]
      exact ⟨k, by omega, h⟩
/-- What was open is closed under clicks on zeros. -/
def Closed (near : Nat → List Nat) (zero : Nat → Bool) (L : List Nat) : Prop := ∀ y ∈ L, zero y = true → ∀ x ∈ near y, x ∈ L
theorem bfs_closed (hn : ∀ y, ∀ x ∈ near y, x < n) (hf : f < n) (hc : Closed near zero L0) : Closed near zero (L0 ++ bfs near zero L0 n 0 [f]) := by
  obtain ⟨k', hk', h⟩ := Bq.end (L0 := L0) hn n 0 [f] (by omega) (Bq.start (near := near) (zero := zero) hf)
  intro y hy hz x hx
  rcases List.mem_append.1 hy with hy | hy
  · exact List.mem_append.2 (.inl (hc y hy hz x hx))
  · obtain ⟨j, hj, rfl⟩ := List.getElem_of_mem hy
    exact List.mem_append.2 (h.done j hj (by omega) hz x hx)
theorem bfs_mem (hn : ∀ y, ∀ x ∈ near y, x < n) (hf : f < n) (hc : Closed near zero L0) (x : Nat) : x ∈ L0 ++ bfs near zero L0 n 0 [f] ↔ x ∈ L0 ∨ Reach near zero f x := by
  obtain ⟨k', hk', h⟩ := Bq.end (L0 := L0) hn n 0 [f] (by omega) (Bq.start (near := near) (zero := zero) hf)
  constructor
  · intro hx
    rcases List.mem_append.1 hx with hx | hx
    · exact .inl hx
    · exact .inr (h.reach x hx)
  · rintro (hx | hx)
    · exact List.mem_append.2 (.inl hx)
    · induction hx with
      | start => exact List.mem_append.2 (.inr h.first)
      | step _ hz hx ih => exact bfs_closed hn hf hc _ ih hz _ hx
theorem bfs_lt (hn : ∀ y, ∀ x ∈ near y, x < n) (hf : f < n) : ∀ x ∈ bfs near zero L0 n 0 [f], x < n := by
  obtain ⟨k', hk', h⟩ := Bq.end (L0 := L0) hn n 0 [f] (by omega) (Bq.start (near := near) (zero := zero) hf)
  exact h.lt
theorem bfs_len (hn : ∀ y, ∀ x ∈ near y, x < n) (hf : f < n) : (bfs near zero L0 n 0 [f]).length ≤ n := by
  obtain ⟨k', hk', h⟩ := Bq.end (L0 := L0) hn n 0 [f] (by omega) (Bq.start (near := near) (zero := zero) hf)
  exact nodup_le h.nodup h.lt
theorem bfs_nodup (hn : ∀ y, ∀ x ∈ near y, x < n) (hf : f < n) : (bfs near zero L0 n 0 [f]).Nodup := by
  obtain ⟨k', hk', h⟩ := Bq.end (L0 := L0) hn n 0 [f] (by omega) (Bq.start (near := near) (zero := zero) hf)
  exact h.nodup
theorem closed_nil : Closed near zero [] := by intro y hy; simp at hy
theorem bfs0_mem (hn : ∀ y, ∀ x ∈ near y, x < n) (hf : f < n) (x : Nat) : x ∈ bfs near zero [] n 0 [f] ↔ Reach near zero f x := by
  have := bfs_mem (L0 := []) (zero := zero) hn hf closed_nil x
  simpa using this
end

/-- A number put into an increasing list. -/
def putM : List Nat → Nat → List Nat
  | [], x => [x]
  | y :: r, x => if y < x then y :: putM r x else if y = x then y :: r else x :: y :: r
theorem mem_putM (x z : Nat) : ∀ l : List Nat, z ∈ putM l x ↔ z = x ∨ z ∈ l
  | [] => by simp [putM]
  | y :: r => by
    unfold putM
    by_cases h1 : y < x
    · rw [if_pos h1, List.mem_cons, mem_putM x z r, List.mem_cons]
      constructor
      · rintro (h | h | h)
        · exact .inr (.inl h)
        · exact .inl h
        · exact .inr (.inr h)
      · rintro (h | h | h)
        · exact .inr (.inl h)
        · exact .inl h
        · exact .inr (.inr h)
    · rw [if_neg h1]
      by_cases h2 : y = x
      · rw [if_pos h2]; subst h2
        constructor
        · exact .inr
        · rintro (h | h)
          · rw [h]; exact List.mem_cons_self
          · exact h
      · rw [if_neg h2]; exact List.mem_cons
theorem putM_rise (x : Nat) : ∀ l : List Nat, l.Pairwise (· < ·) → (putM l x).Pairwise (· < ·)
  | [], _ => by simp [putM]
  | y :: r, h => by
    obtain ⟨h1, h2⟩ := List.pairwise_cons.1 h
    unfold putM
    by_cases c1 : y < x
    · rw [if_pos c1]
      refine List.pairwise_cons.2 ⟨?_, putM_rise x r h2⟩
      intro z hz
      rcases (mem_putM x z r).1 hz with rfl | hz
      · exact c1
      · exact h1 z hz
    · rw [if_neg c1]
      by_cases c2 : y = x
      · rw [if_pos c2]; exact h
      · rw [if_neg c2]
        refine List.pairwise_cons.2 ⟨?_, h⟩
        intro z hz
        rcases List.mem_cons.1 hz with rfl | hz
        · omega
        · have := h1 z hz; omega
theorem putM_sort {n x : Nat} {L : List Nat} (h : ∀ y ∈ L, y < n) (hx : x < n) : putM (sortM n L) x = sortM n (L ++ [x]) := by
  refine rise_ext (putM_rise _ _ (sortM_rise _ _)) (sortM_rise _ _) (fun z => ?_)
  have h2 : ∀ y ∈ L ++ [x], y < n := by
    intro y hy
    rcases List.mem_append.1 hy with hy | hy
    · exact h y hy
    · rw [List.mem_singleton.1 hy]; exact hx
  rw [mem_putM, mem_sortM h, mem_sortM h2, List.mem_append, List.mem_singleton]
  exact Or.comm
theorem putM_len (x : Nat) : ∀ l : List Nat, (putM l x).length ≤ l.length + 1
  | [] => by simp [putM]
  | y :: r => by
    have := putM_len x r
    unfold putM
    split
    · simp; omega
    · split <;> simp
theorem putM_step (l : List Nat) (x k : Nat) (hk : k < l.length) (h : l[k] < x) : l.take k ++ putM (l.drop k) x = l.take (k + 1) ++ putM (l.drop (k + 1)) x := by
  rw [List.drop_eq_getElem_cons hk, putM, if_pos h, List.take_succ_eq_append_getElem hk, List.append_assoc]
  rfl
theorem putM_there (l : List Nat) (x k : Nat) (hk : k < l.length) (h : l[k] = x) : l.take k ++ putM (l.drop k) x = l := by
  rw [List.drop_eq_getElem_cons hk, putM, if_neg (by omega), if_pos h, ← List.drop_eq_getElem_cons hk, List.take_append_drop]
theorem putM_here (l : List Nat) (x k : Nat) (hk : k ≤ l.length) (h : ∀ hk : k < l.length, x < l[k]) : l.take k ++ putM (l.drop k) x = (l.take k ++ [x]) ++ l.drop k := by
  by_cases hk2 : k < l.length
  · rw [List.drop_eq_getElem_cons hk2, putM, if_neg (by have := h hk2; omega), if_neg (by have := h hk2; omega), List.append_assoc]
    rfl
  · rw [List.drop_of_length_le (by omega)]
    simp [putM]
end Go.Proofs.YtndmkbkmfonefacDoor

/- Opening: a map of cells that the call made, each set true. -/
namespace Go.Proofs.YtndmkbkmfonefacDoor
open Go.RowKit

theorem addB_push (L0 : List Nat) : ∀ (r q s : List Nat), addB L0 (q ++ s) r = q ++ addB (L0 ++ q) s r
  | [], q, s => by simp [addB]
  | x :: r, q, s => by
    have h : (x ∈ L0 ∨ x ∈ q ++ s) ↔ (x ∈ L0 ++ q ∨ x ∈ s) := by simp only [List.mem_append]; exact ⟨fun h => h.elim (fun h => .inl (.inl h)) (fun h => h.elim (fun h => .inl (.inr h)) .inr), fun h => h.elim (fun h => h.elim .inl (fun h => .inr (.inl h))) (fun h => .inr (.inr h))⟩
    unfold addB
    by_cases c : x ∈ L0 ∨ x ∈ q ++ s
    · rw [if_pos c, if_pos (h.1 c)]; exact addB_push L0 r q s
    · rw [if_neg c, if_neg (fun e => c (h.2 e)), List.append_assoc]; exact addB_push L0 r q (s ++ [x])
theorem addB_from (L0 q r : List Nat) : addB L0 q r = q ++ addB (L0 ++ q) [] r := by
  have := addB_push L0 r q []
  simpa using this
theorem bfs_stop (near : Nat → List Nat) (zero : Nat → Bool) (L0 q : List Nat) : ∀ m, bfs near zero L0 m q.length q = q
  | 0 => rfl
  | m + 1 => by rw [bfs, dif_neg (by omega)]
theorem addB_len (L0 : List Nat) : ∀ r q : List Nat, (addB L0 q r).length ≤ q.length + r.length
  | [], q => by simp [addB]
  | x :: r, q => by
    unfold addB
    split
    · have := addB_len L0 r q; simp; omega
    · have := addB_len L0 r (q ++ [x]); simp at this; simp; omega

/-- All but block b is as it was; new blocks may have come. -/
def Touch (b : Nat) (w w' : World) : Prop := w.grownBy w' (some b)
theorem Touch.refl (b : Nat) (w : World) : Touch b w w := ⟨rfl, rfl, rfl, Nat.le_refl _, fun _ _ _ => rfl⟩
theorem Touch.size {b : Nat} {w w' : World} (h : Touch b w w') : w.heap.size ≤ w'.heap.size := World.grownBy.size h
theorem Touch.trans {b : Nat} {w w' w'' : World} (h : Touch b w w') (h' : Touch b w' w'') : Touch b w w'' :=
  ⟨h'.os.trans h.os, h'.tape.trans h.tape, h'.output.trans h.output, Nat.le_trans h.size h'.size,
    fun k hk hne => (h'.block k (Nat.lt_of_lt_of_le hk h.size) hne).trans (h.block k hk hne)⟩
theorem Touch.of {b : Nat} {w w' : World} (h : Below w.heap.size w w') : Touch b w w' := ⟨h.os, h.tape, h.output, h.size, fun k hk _ => h.block k hk⟩
theorem Touch.then {b C : Nat} {w w' w'' : World} (h : Touch b w w') (hb : Below C w' w'') (hC : w.heap.size ≤ C) : Touch b w w'' :=
  ⟨hb.os.trans h.os, hb.tape.trans h.tape, hb.output.trans h.output, Nat.le_trans h.size hb.size, fun k hk hne => (hb.block k (by omega)).trans (h.block k hk hne)⟩
theorem Touch.below {b C : Nat} {w w' : World} (h : Touch b w w') (hC : C ≤ b) (hs : b < w.heap.size) : Below C w w' :=
  ⟨h.os, h.tape, h.output, h.size, fun k hk => h.block k (by omega) (by simp; omega)⟩
theorem Owns.touch {b B e : Nat} {w w' : World} {v : Value} {xs : List Value} (h : Owns w B e v xs) (ht : Touch b w w') (hb : b < B) : Owns w' B e v xs := by
  have hl := Owns.lt h
  refine World.ownsRow.kept h ht ?_
  cases hv : v.ownBlock with
  | none => exact .inl rfl
  | some k => exact .inr (by have := hl k hv; simp; omega)
theorem cells_of {w : World} {p : Addr} {v : Value} (h : w.cell? p = some v) : ∃ cur e f, w.heap[p.block]? = some (.cells cur e f) := by
  unfold World.cell? at h
  split at h
  · exact ⟨_, _, _, by assumption⟩
  · cases h
theorem At.touch {b : Nat} {w w' : World} {a : Option Addr} {xs : List Value} (h : At w a xs) (ht : Touch b w w') (hb : ∀ cur e f, w.heap[b]? ≠ some (.cells cur e f)) : At w' a xs := by
  intro k hk
  obtain ⟨g, off, ha, hc⟩ := h k hk
  refine ⟨g, off, ha, World.grownBy.cell ht hc ?_⟩
  intro e
  simp only [Option.some.injEq] at e
  subst e
  have hlt := World.block_lt_of_cell? w _ hc
  obtain ⟨cur, t, f, hh⟩ := cells_of hc
  exact hb cur t f hh

def keyI (c : Nat) : Lit := .int .i64 (c : Int)
theorem keyI_inj {a b : Nat} (h : keyI a = keyI b) : a = b := by
  have e : (a : Int) = (b : Int) := by simpa [keyI] using h
  omega
theorem keyI_is (c : Nat) : WideAt.IsKeyLit (keyI c) := trivial
theorem keyI_wf (c : Nat) (h : c < 1099511627776) : (keyI c).wf = true := by
  have h1 : IntKind.i64.min = -9223372036854775808 := rfl
  have h2 : IntKind.i64.max = 9223372036854775807 := rfl
  show (decide (IntKind.i64.min ≤ (c : Int)) && decide ((c : Int) ≤ IntKind.i64.max)) = true
  rw [h1, h2, Bool.and_eq_true, decide_eq_true_eq, decide_eq_true_eq]
  omega

/-- The datum of a map of numbers, each set true. -/
def setI (L : List Nat) : DataW Unit := Maps.setOf (.lit (.bool true)) (L.map keyI)
theorem setI_snoc (L : List Nat) (c : Nat) : setI (L ++ [c]) = (setI L).put (keyI c) (.lit (.bool true)) := by
  unfold setI
  rw [List.map_append]
  exact Maps.setOf_snoc _ _ _
theorem fold_at (c : Nat) (z : DataW Unit) : ∀ (L : List Nat) (m : DataW Unit), Maps.IsMap m →
    ((L.map keyI).foldl (fun m x => m.put x (.lit (.bool true))) m).atKey (keyI c) z = if c ∈ L then .lit (.bool true) else m.atKey (keyI c) z
  | [], _, _ => by simp
  | x :: r, m, hm => by
    rw [List.map_cons, List.foldl_cons, fold_at c z r _ (hm.put _ _)]
    by_cases h1 : c ∈ r
    · rw [if_pos h1, if_pos (List.mem_cons_of_mem _ h1)]
    · rw [if_neg h1]
      by_cases h2 : c = x
      · subst h2
        rw [if_pos List.mem_cons_self, Maps.atKey_put_same hm (keyI_is _)]
      · rw [if_neg (by rw [List.mem_cons]; exact fun e => e.elim h2 h1), Maps.atKey_put_other (fun e => h2 (keyI_inj e))]
theorem setI_at (L : List Nat) (c : Nat) (z : DataW Unit) : (setI L).atKey (keyI c) z = if c ∈ L then .lit (.bool true) else z := by
  unfold setI Maps.setOf
  rw [fold_at c z L _ Maps.isMap_empty]
  rfl

/-- Block b is a map of the cells L, each true. -/
def Marks (w : World) (b : Nat) (L : List Nat) : Prop := w.ownsMap Tryd.prog 3 (plainElem (H := Unit) Tryd.prog 4) b L.length (setI L)
theorem Marks.made (w : World) : Marks (w.alloc (.map #[] 0)) w.heap.size [] := World.ownsMap_made _ _ _ _
theorem Marks.lt {w : World} {b : Nat} {L : List Nat} (h : Marks w b L) : b < w.heap.size := World.ownsMap.lt h
theorem Marks.nocells {w : World} {b : Nat} {L : List Nat} (h : Marks w b L) : ∀ cur e f, w.heap[b]? ≠ some (.cells cur e f) := by
  intro cur e f hc
  obtain ⟨es, clock, hb, _⟩ := h
  rw [hb] at hc
  cases hc
theorem Marks.kept {w w' : World} {b : Nat} {L : List Nat} (h : Marks w b L) {C : Nat} (hC : b < C) (hb : Below C w w') : Marks w' b L := by
  obtain ⟨es, clock, h1, h2⟩ := h
  exact ⟨es, clock, by rw [hb.block b hC]; exact h1, h2⟩
theorem Marks.later {w w' : World} {b : Nat} {L : List Nat} (h : Marks w b L) (hb : Below w.heap.size w w') : Marks w' b L := h.kept h.lt hb

theorem keyedI : Maps.Keyed Tryd.prog 3 := Maps.int_keyed Tryd.underlying3
theorem keyI_of (c : Nat) (h : c < 1099511627776) : keyOf Tryd.prog 3 (.int .i64 (c : Int)) = some (keyI c) := Maps.keyOf_int_mk Tryd.underlying3 (keyI_wf c h)
theorem zeroBool (w : World) : (zeroValue 4).run Tryd.prog w = .ok (.bool false) w := by kernel_rfl

theorem plainElem_bool_inv {P : Program} {e : TypeId} (he : P.underlying e = some .bool) {v : Value} {z : DataW Unit × List MemPlace} (h : plainElem P e v = some z) : ∃ x, v = .bool x ∧ z = (.lit (.bool x), []) := by
  unfold plainElem at h
  rw [he] at h
  cases v <;> simp at h
  exact ⟨_, rfl, h.symm⟩

/-- Is a cell in the map? -/
theorem wpList_mark_look {ops : Array Oper} {rest : List Oper} {o : Oper} {a : Act} {Q : Exit → Act → World → Prop} {w : World} (hg : o.guard = none) (m x : Operand)
    (hop : o.op = Op.lookup 66 m x false) (b : Nat) (L : List Nat) (hm : a.eval m = .map (some b)) (hM : Marks w b L) (c : Nat) (hx : a.eval x = .int .i64 (c : Int)) (hc : c < 1099511627776) (v : Bool) (hv : decide (c ∈ L) = v)
    (hK : wpList Tryd.prog ops Q rest (a.put o.dst (.bool v)) w) : wpList Tryd.prog ops Q (o :: rest) a w := by
  refine wpList_plain hg fun K' hK' => ?_
  obtain ⟨v', ps, hrun, hR⟩ := World.ownsMap.lookup hM keyedI Tryd.underlying66 (zeroBool w) (zd := .lit (.bool false)) (zp := []) (plainElem_bool Tryd.underlying4 false) (keyI_of c hc)
  rw [setI_at] at hR
  obtain ⟨y, rfl, hy⟩ := plainElem_bool_inv Tryd.underlying4 hR
  obtain rfl : y = v := by
    subst hv
    have hy1 := congrArg Prod.fst hy
    by_cases hcL : c ∈ L
    · rw [if_pos hcL] at hy1
      simp [hcL] at hy1 ⊢; exact hy1
    · rw [if_neg hcL] at hy1
      simp [hcL] at hy1 ⊢; exact hy1
  unfold Oper.wp
  simp [execOp, hop, hm, hx, hrun, Result.andThen]
  exact hK' _ _ hK

/-- A cell is set true. -/
theorem wpList_mark_put {ops : Array Oper} {rest : List Oper} {o : Oper} {a : Act} {Q : Exit → Act → World → Prop} {w : World} (hg : o.guard = none) (m x v : Operand)
    (hop : o.op = Op.mapUpdate 66 m x v) (b : Nat) (L : List Nat) (hm : a.eval m = .map (some b)) (hM : Marks w b L) (c : Nat) (hx : a.eval x = .int .i64 (c : Int)) (hc : c < 1099511627776) (hv : a.eval v = .bool true) (hL : L.length < 1099511627776)
    (hK : ∀ w', Marks w' b (L ++ [c]) → Touch b w w' → wpList Tryd.prog ops Q rest (a.put o.dst undef) w') : wpList Tryd.prog ops Q (o :: rest) a w := by
  refine wpList_mapUpdate_own w hg m x v _ hop _ _ keyedI Tryd.underlying66 _ b L.length (setI L) hm hM (by unfold maxLen; omega) _ _ (keyI c) hx hv (keyI_of c hc) (.lit (.bool true)) [] (plainElem_bool Tryd.underlying4 true) ?_
  intro w' h1 h2
  refine hK w' ?_ h2
  unfold Marks
  rw [setI_snoc, List.length_append]
  exact h1
end Go.Proofs.YtndmkbkmfonefacDoor

/- Opening: the neighbours that were not open, by the program. -/
namespace Go.Proofs.YtndmkbkmfonefacDoor
open Go.RowKit

set_option maxRecDepth 100000 in
set_option maxHeartbeats 1600000 in
theorem openNearJ_any {J : Bool} (W H : Nat) (a : Option Addr) (n cap : Nat) (b : Nat) (L : List Nat) (c : Nat) (w : World) (hM : Marks w b L) (hL : L.length ≤ 1048576) (hW : 1 ≤ W) (hc : c ≤ 63) (hn : n ≤ 64) (hJ : J = true → (1 ≤ W ∧ W ≤ 1048576) ∧ (1 ≤ H ∧ H ≤ 1048576)) :
    Calls Tryd.prog 87 #[.agg #[.int .i64 W, .int .i64 H, .slice a n cap, .bool J], .map (some b), .int .i64 c] w fun e w' => ∃ a' cap', e = .returned (.slice a' (addB L [] (nearM (geoOf J W H) n c)).length cap') ∧
      Owns w' w.heap.size 3 (.slice a' (addB L [] (nearM (geoOf J W H) n c)).length cap') (nats (addB L [] (nearM (geoOf J W H) n c))) ∧ Marks w' b (L ++ addB L [] (nearM (geoOf J W H) n c)) ∧ Touch b w w' := by
  have hnl := nearM_le (geoOf J W H) n c
  have hnlt := nearM_lt (geoOf J W H) n c
  have hbl := hM.lt
  have hnb := fun w => neighboursJ_any W H a n cap c w hW hc hn hJ
  generalize nearM (geoOf J W H) n c = near at *
  have HNB := Lib.hid hnb
  clear hnb
  go_enter Tryd.func87, Tryd.ntmps87
  go_wp2_with fail
  refine (HNB.out _).mono ?_
  rintro e w1 ⟨a', cap', rfl, hown1, hb1⟩
  have hs1 : w.heap.size < w1.heap.size := by have := hb1.size; simp at this; omega
  have hb0 : Below w.heap.size w w1 := ((Below.refl _ _).alloc (Nat.le_refl _) _).trans (hb1.mono (by simp))
  have hat1 := hown1.at
  have hM1 : Marks w1 b L := hM.later hb0
  have ht1 : Touch b w w1 := Touch.of hb0
  clear hown1 hb1 hb0
  go_wp2_with fail
  go_loopw [7, 14] (fun v i wr => ∃ k : Nat, k ≤ near.length ∧ i = .int .i64 k ∧ ∃ acc : List Nat, acc.length ≤ k ∧ Owns wr w1.heap.size 3 v (nats acc) ∧ Marks wr b (L ++ acc) ∧ Touch b w wr ∧ w1.heap.size ≤ wr.heap.size ∧ At wr a' (nats near) ∧ Hid (addB L [] near = addB L acc (near.drop k))) (fun _ i _ => near.length - (intOf i).toNat)
  case atStart => exact ⟨0, Nat.zero_le _, rfl, [], by simp, Owns.nil _ _ _, by simpa using hM1, ht1, Nat.le_refl _, hat1, rfl⟩
  case round =>
    obtain ⟨k, hk, rfl, acc, hacc, hown, hMr, htr, hsr, hatr, hR⟩ := hrel
    by_cases hlt : k < near.length
    · have Ht := Lib.hid (List.drop_eq_getElem_cons hlt)
      have hx64 : near[k] < 1099511627776 := Nat.lt_of_lt_of_le (hnlt _ (List.getElem_mem hlt)) (by omega)
      obtain ⟨g, off, rfl, hcell⟩ := nats_at hatr k hlt
      by_cases hin : near[k] ∈ L ++ acc
      · have hd : decide (near[k] ∈ L ++ acc) = true := by simpa using hin
        have Hin := Lib.hid hin
        have Hd := Lib.hid hd
        clear hin hd
        go_wp2_with (at_lookup; refine wpList_mark_look rfl _ _ rfl b _ rfl hMr _ rfl hx64 true Hd.out ?_)
        go_roundw
        case rel => exact ⟨k + 1, by omega, by go_num, acc, by omega, hown, hMr, htr, hsr, hatr, by rw [Hid, hR.out, Ht.out, addB, if_pos (List.mem_append.1 Hin.out)]⟩
        case measure => simp [intOf]; omega
      · have hd : decide (near[k] ∈ L ++ acc) = false := by simpa using hin
        have Hin := Lib.hid hin
        have Hd := Lib.hid hd
        clear hin hd
        have hll : (L ++ acc).length < 1099511627776 := by simp; omega
        go_wp2_with (first
          | (at_lookup; refine wpList_mark_look rfl _ _ rfl b _ rfl hMr _ rfl hx64 false Hd.out ?_)
          | (at_mapUpdate; refine wpList_mark_put rfl _ _ _ rfl b _ rfl hMr _ rfl hx64 rfl hll ?_; intro w2 hM2 ht2)
          | (at_builtin; refine wpList_app1 rfl _ _ _ rfl _ _ _ _ elemInt _ _ _ _ rfl rfl rfl (hown.touch ht2 (by omega)) rfl (by simp; omega) (by have := ht2.size; omega) (by simp; omega) ?_; intro v1 w3 hown1 hb1 hs1))
        rw [nats_snoc] at hown1
        go_roundw
        case rel => exact ⟨k + 1, by omega, by go_num, _, by simp; omega, hown1, by rw [← List.append_assoc]; exact hM2.kept (by omega) hb1, (htr.trans ht2).then hb1 (by omega), by have := hb1.size; have := ht2.size; omega, (hatr.touch ht2 hMr.nocells).below hat1 (Nat.le_refl _) hb1, by rw [Hid, hR.out, Ht.out, addB, if_neg (fun e => Hin.out (List.mem_append.2 e))]⟩
        case measure => simp [intOf]; omega
    · obtain rfl : k = near.length := by omega
      go_wp2_with fail
      go_ret
      have hfin : acc = addB L [] near := by rw [hR.out]; simp [addB]
      rw [hfin] at hown hMr
      obtain ⟨a2, cap2, hv⟩ := hown.shape
      simp only [nats_length] at hv
      exact ⟨a2, cap2, by rw [← hv]; rfl, by rw [← hv]; exact hown.mono (by omega), hMr, htr⟩
/-- The same where rows are not joined. -/
theorem openNear_any (W H : Nat) (a : Option Addr) (n cap : Nat) (b : Nat) (L : List Nat) (c : Nat) (w : World) (hM : Marks w b L) (hL : L.length ≤ 1048576) (hW : 1 ≤ W) (hc : c ≤ 63) (hn : n ≤ 64) :
    Calls Tryd.prog 87 #[.agg #[.int .i64 W, .int .i64 H, .slice a n cap, .bool false], .map (some b), .int .i64 c] w fun e w' => ∃ a' cap', e = .returned (.slice a' (addB L [] (nearM W n c)).length cap') ∧
      Owns w' w.heap.size 3 (.slice a' (addB L [] (nearM W n c)).length cap') (nats (addB L [] (nearM W n c))) ∧ Marks w' b (L ++ addB L [] (nearM W n c)) ∧ Touch b w w' :=
  openNearJ_any W H a n cap b L c w hM hL hW hc hn nofun
end Go.Proofs.YtndmkbkmfonefacDoor

/- Opening: a click on a cell, by the program. -/
namespace Go.Proofs.YtndmkbkmfonefacDoor
open Go.RowKit

theorem At.ofNone {w : World} {xs : List Value} (h : At w none xs) : xs = [] := by
  cases xs with
  | nil => rfl
  | cons x r =>
    obtain ⟨b, off, h, _⟩ := h 0 (by simp)
    cases h

/-- append of a whole row, nil or not, to a row that the call owns. -/
theorem run_appA {P : Program} (w : World) (B t ty e bytes : Nat) (z : Value) (E : Elem P t e z bytes) (v : Value) (xs : List Value) (hown : Owns w B e v xs)
    (A : Option Addr) (c : Nat) (news : List Value) (hat : At w A news) (h1 : ∀ u ∈ news, u.oneCell' = true) (hlen : (xs.length + news.length) * bytes ≤ 140737488355328) (hlen' : xs.length + news.length < 1099511627776) (hB : B ≤ w.heap.size) :
    ∃ v' w', (Builtin.append_ #[t, t] ty #[v, .slice A news.length c]).run P w = .ok v' w' ∧ Owns w' B e v' (xs ++ news) ∧ Below B w w' := by
  obtain ⟨i, hi, hz, hsz, hby⟩ := E.info
  cases A with
  | none =>
    obtain rfl := hat.ofNone
    refine ⟨v, w, ?_, by simpa using hown, Below.refl _ _⟩
    rcases hown.2 with ⟨rfl, _⟩ | ⟨g, cap, cur, rfl, _, _, hnc, _⟩
    · simp [Builtin.append_, run_underlying E.und, sizeOf, typeInfo, hi, Builtin.lenOf, Builtin.firstCells]
    · simp [Builtin.append_, run_underlying E.und, sizeOf, typeInfo, hi, Builtin.lenOf, Builtin.firstCells, hnc, storeCells]
  | some ad =>
    have hnews : ∀ j u, news[j]? = some u → w.cell? (ad.add j) = some u := by
      intro j u hu
      obtain ⟨hj, rfl⟩ := List.getElem?_eq_some_iff.1 hu
      obtain ⟨b, off, hab, hc⟩ := hat j hj
      obtain rfl : ad = ⟨b, off, none⟩ := by simpa using hab
      rw [Addr.add_lit]
      exact hc
    obtain ⟨v', w', hr, h2, h3, _⟩ := run_append_own (P := P) w B t ty e i z 1 bytes E.und hi hz hsz hby E.one (by decide) v xs.length xs hown ad news.length c news (by simp) hnews h1 (by unfold maxLen; omega) hlen hB
    exact ⟨v', w', hr, by unfold Owns; rw [List.length_append]; exact h2, (Below.refl B w).grown h3 hB (fun k hk => (Owns.lt hown k hk).1)⟩
theorem wpList_appA {P : Program} {ops : Array Oper} {rest : List Oper} {o : Oper} {a : Act} {Q : Exit → Act → World → Prop} {w : World} (hgd : o.guard = none) (s x : Operand) (t : TypeId)
    (ho : o.op = .call { callee := .builtin .append, args := #[s, x], argTypes := #[t, t] })
    (B e bytes : Nat) (z : Value) (E : Elem P t e z bytes) (v : Value) (xs : List Value) (hs : a.eval s = v) (hown : Owns w B e v xs) (A : Option Addr) (n c : Nat) (news : List Value) (hx : a.eval x = .slice A n c) (hn : news.length = n) (hat : At w A news) (h1 : ∀ u ∈ news, u.oneCell' = true)
    (hlen : (xs.length + news.length) * bytes ≤ 140737488355328) (hlen' : xs.length + news.length < 1099511627776) (hB : B ≤ w.heap.size)
    (h : ∀ v' w', Owns w' B e v' (xs ++ news) → Below B w w' → wpList P ops Q rest (a.put o.dst v') w') : wpList P ops Q (o :: rest) a w := by
  subst hn
  refine wpList_plain hgd fun K hK => ?_
  obtain ⟨v', w', hrun, h2, h3⟩ := run_appA (P := P) w B t o.type e bytes z E v xs hown A c news hat h1 hlen hlen' hB
  unfold Oper.wp execOp
  simp only [ho, resolve, invoke, builtin, Sem.run_bind, Sem.run_pure, Result.andThen_ok, List.map_toArray, List.map_cons, List.map_nil, hs, hx, hrun]
  exact hK _ _ (h v' w' h2 h3)
theorem step_appA {P : Program} {ops : Array Oper} {o : Oper} {a : Act} {K : Act → World → Prop} {Q : Exit → Act → World → Prop} {S : Prop} {w : World} (hgd : o.guard = none) (s x : Operand) (t : TypeId)
    (ho : o.op = .call { callee := .builtin .append, args := #[s, x], argTypes := #[t, t] })
    (B e bytes : Nat) (z : Value) (E : Elem P t e z bytes) (v : Value) (xs : List Value) (hs : a.eval s = v) (hown : Owns w B e v xs) (A : Option Addr) (n c : Nat) (news : List Value) (hx : a.eval x = .slice A n c) (hn : news.length = n) (hat : At w A news) (h1 : ∀ u ∈ news, u.oneCell' = true)
    (hlen : (xs.length + news.length) * bytes ≤ 140737488355328) (hlen' : xs.length + news.length < 1099511627776) (hB : B ≤ w.heap.size)
    (h : ∀ v' w', Owns w' B e v' (xs ++ news) → Below B w w' → K (a.put o.dst v') w') :
    if Region.wanted o (yielded ops a.tmps) = true then Oper.wp P o a w K Q else S := by
  subst hn
  have hw : Region.wanted o (yielded ops a.tmps) = true := by simp [Region.wanted, hgd]
  rw [if_pos hw]
  obtain ⟨v', w', hrun, h2, h3⟩ := run_appA (P := P) w B t o.type e bytes z E v xs hown A c news hat h1 hlen hlen' hB
  unfold Oper.wp execOp
  simp only [ho, resolve, invoke, builtin, Sem.run_bind, Sem.run_pure, Result.andThen_ok, List.map_toArray, List.map_cons, List.map_nil, hs, hx, hrun]
  exact h v' w' h2 h3
theorem nats_one (xs : List Nat) : ∀ u ∈ nats xs, u.oneCell' = true := by
  intro u hu
  simp only [nats, ints, List.map_map, List.mem_map] at hu
  obtain ⟨x, _, rfl⟩ := hu
  rfl
theorem nats_append (xs ys : List Nat) : nats xs ++ nats ys = nats (xs ++ ys) := by simp [nats, ints]

theorem Owns.one (w : World) (B e : Nat) (x : Value) (hB : B ≤ w.heap.size) : Owns (w.alloc (.cells #[x] e)) B e (.slice (some ⟨w.heap.size, 0, none⟩) 1 1) [x] := by
  refine ⟨by simp, .inr ⟨w.heap.size, 1, #[x], by simp, hB, heap_alloc_new w _, by simp, by simp [maxLen], by simp, by simp⟩⟩

/-- Has a cell the number 0? -/
def zeroB (cells : List UInt8) (W : Geo) (c : Nat) : Bool := numM cells W c == 0

set_option maxRecDepth 100000 in
set_option maxHeartbeats 3200000 in
theorem clickJ_any {J : Bool} (W H : Nat) (a : Option Addr) (cells : List UInt8) (cap : Nat) (b : Nat) (L : List Nat) (f : Nat) (w : World) (hat : At w a (byts cells)) (hM : Marks w b L) (hL : L.length ≤ 1000000) (hW : 1 ≤ W) (h64 : cells.length ≤ 64) (hf : f < cells.length) (hJ : J = true → (1 ≤ W ∧ W ≤ 1048576) ∧ (1 ≤ H ∧ H ≤ 1048576)) :
    Calls Tryd.prog 70 #[.agg #[.int .i64 W, .int .i64 H, .slice a cells.length cap, .bool J], .map (some b), .int .i64 f] w fun e w' => e = .returned (.tuple #[]) ∧
      Marks w' b (L ++ bfs (nearM (geoOf J W H) cells.length) (zeroB cells (geoOf J W H)) L cells.length 0 [f]) ∧ Touch b w w' := by
  have hbl := hM.lt
  have hw0 : Below w.heap.size w (w.alloc (.cells #[.int .i64 W, .int .i64 H, .slice a cells.length cap, .bool J] 42)) := (Below.refl _ _).alloc (Nat.le_refl _) _
  have hG0 : (w.alloc (.cells #[.int .i64 W, .int .i64 H, .slice a cells.length cap, .bool J] 42)).heap[w.heap.size]? = some (.cells #[.int .i64 W, .int .i64 H, .slice a cells.length cap, .bool J] 42 (0, 0)) := heap_alloc_new w _
  have hs0 : (w.alloc (.cells #[.int .i64 W, .int .i64 H, .slice a cells.length cap, .bool J] 42)).heap.size = w.heap.size + 1 := by simp
  go_enter Tryd.func70, Tryd.ntmps70
  go_wp2_with fail
  generalize w.alloc (.cells #[.int .i64 W, .int .i64 H, .slice a cells.length cap, .bool J] 42) = w0 at *
  have HS0 := Lib.hid hs0
  have HG0 := Lib.hid hG0
  clear hs0 hG0
  have hM0 : Marks w0 b L := hM.later hw0
  have hat0 : At w0 a (byts cells) := hat.later rfl hw0
  go_step3
  go_wp2_with (at_mapUpdate; refine wpList_mark_put rfl _ _ _ rfl b _ rfl hM0 _ rfl (by omega) rfl (by omega) ?_; intro w2 hM2 ht2)
  go_step3
  go_wp2_with fail
  have hs2 := ht2.size
  have hown0 : Owns (w2.alloc (.cells #[.int .i64 (f : Int)] 3)) (w.heap.size + 1) 3 (.slice (some ⟨w2.heap.size, 0, none⟩) 1 1) (nats [f]) := Owns.one w2 _ _ _ (by have := HS0.out; omega)
  have hb3 : Below w2.heap.size w2 (w2.alloc (.cells #[.int .i64 (f : Int)] 3)) := (Below.refl _ _).alloc (Nat.le_refl _) _
  have hM3 := hM2.later hb3
  have ht3 : Touch b w0 (w2.alloc (.cells #[.int .i64 (f : Int)] 3)) := ht2.trans (Touch.of hb3)
  generalize w2.alloc (.cells #[.int .i64 (f : Int)] 3) = w3 at *
  have hnlt : ∀ y, ∀ x ∈ nearM (geoOf J W H) cells.length y, x < cells.length := fun y x hx => nearM_lt (geoOf J W H) cells.length y x hx
  have HN := Lib.hid hnlt
  have hBq0 : Hid (Bq (nearM (geoOf J W H) cells.length) (zeroB cells (geoOf J W H)) L cells.length f 0 [f]) := Bq.start hf
  have hwB := Lib.hid hw0
  clear hnlt hs2 hb3 hM2 ht2 hw0
  go_loopw [6, 7] (fun v i wr => ∃ (k : Nat) (q : List Nat), k ≤ q.length ∧ q.length ≤ cells.length ∧ i = .int .i64 k ∧ Owns wr (w.heap.size + 1) 3 v (nats q) ∧ Marks wr b (L ++ q) ∧ Touch b w0 wr ∧ Hid (Bq (nearM (geoOf J W H) cells.length) (zeroB cells (geoOf J W H)) L cells.length f k q) ∧ Hid (bfs (nearM (geoOf J W H) cells.length) (zeroB cells (geoOf J W H)) L cells.length 0 [f] = bfs (nearM (geoOf J W H) cells.length) (zeroB cells (geoOf J W H)) L (cells.length - k) k q)) (fun _ i _ => cells.length - (intOf i).toNat)
  case atStart => exact ⟨0, [f], by simp, by simp; omega, rfl, hown0, hM3, ht3, hBq0, rfl⟩
  case round =>
    obtain ⟨k, q, hkq, hqn, rfl, hown, hMr, htr, HB, HR⟩ := hrel
    obtain ⟨a1, cap1, hv⟩ := hown.shape
    simp only [nats_length] at hv
    subst hv
    by_cases hend : k < q.length
    · have hd : ((k : Int) == (q.length : Int)) = false := by simp; omega
      have hGr : wr.heap[w.heap.size]? = some (.cells #[.int .i64 W, .int .i64 H, .slice a cells.length cap, .bool J] 42 (0, 0)) := by rw [htr.block _ (by have := HS0.out; omega) (by simp; omega)]; exact HG0.out
      have hf0 := cell_of_block hGr 0
      have hf1 := cell_of_block hGr 1
      have hf2 := cell_of_block hGr 2
      have hf3 := cell_of_block hGr 3
      simp at hf0 hf1 hf2 hf3
      obtain ⟨g, off, rfl, hq⟩ := nats_at hown.at k hend
      have hqk : q[k] < cells.length := HB.out.lt _ (List.getElem_mem hend)
      go_wp2_with fail
      go_still_tail 5, (by kernel_rfl)
      change wpList _ _ _ _ _ wr.drew
      have hownd : Owns wr.drew (w.heap.size + 1) 3 (.slice (some ⟨g, off, none⟩) q.length cap1) (nats q) := hown
      have hMd : Marks wr.drew b (L ++ q) := hMr
      have htd : Touch b w0 wr.drew := htr.trans (Touch.of (⟨rfl, rfl, rfl, Nat.le_refl _, fun _ _ => rfl⟩))
      generalize wr.drew = wd at *
      clear hGr hf0 hf1 hf2 hf3 hq hown hMr htr
      go_wp2_with fail
      refine (numberJ_any W H a cells cap q[k] _ (hat0.touch htd hM0.nocells) hW hqk h64 hJ).mono ?_
      rintro e w4 ⟨rfl, hb4⟩
      have hown4 := hownd.later hb4
      have hM4 := hMd.later hb4
      have ht4 := htd.trans (Touch.of hb4)
      clear hownd hMd htd hb4
      by_cases hz : zeroB cells (geoOf J W H) q[k] = true
      · have hd2 : ((numM cells (geoOf J W H) q[k] : Int) == 0) = true := by simpa [zeroB] using hz
        have Hz := Lib.hid hz
        clear hz
        have hG4 : w4.heap[w.heap.size]? = some (.cells #[.int .i64 W, .int .i64 H, .slice a cells.length cap, .bool J] 42 (0, 0)) := by rw [ht4.block _ (by have := HS0.out; omega) (by simp; omega)]; exact HG0.out
        have hf0 := cell_of_block hG4 0
        have hf1 := cell_of_block hG4 1
        have hf2 := cell_of_block hG4 2
        have hf3 := cell_of_block hG4 3
        simp at hf0 hf1 hf2 hf3
        obtain ⟨g', off', he', hq4⟩ := nats_at hown4.at k hend
        simp only [Option.some.injEq, Addr.mk.injEq, and_true] at he'
        obtain ⟨rfl, rfl⟩ := he'
        go_wp2_with fail
        have hownd : Owns w4.drew (w.heap.size + 1) 3 (.slice (some ⟨g, off, none⟩) q.length cap1) (nats q) := hown4
        have hMd : Marks w4.drew b (L ++ q) := hM4
        have htd : Touch b w0 w4.drew := ht4.trans (Touch.of (⟨rfl, rfl, rfl, Nat.le_refl _, fun _ _ => rfl⟩))
        have hbd := hMd.lt
        have hs5 := htd.size
        have hol : (addB (L ++ q) [] (nearM (geoOf J W H) cells.length q[k])).length ≤ cells.length := by
          have h1 := addB_len (L ++ q) (nearM (geoOf J W H) cells.length q[k]) []
          have h2 := nearM_le (geoOf J W H) cells.length q[k]
          simp at h1
          omega
        have hll : (L ++ q).length ≤ 1048576 := by simp; omega
        have HOL := Lib.hid hol
        clear hown4 hM4 ht4 hol
        go_region_law (first
          | (refine step_appA rfl _ _ _ (by rfl) (w.heap.size + 1) _ _ _ elemInt _ (nats q) (by rfl) (hownd.touch ht5 (by omega)) _ _ _ (nats (addB (L ++ q) [] (nearM (geoOf J W H) cells.length q[k]))) (by rfl) (nats_length _) hown5.at (nats_one _) (by have := HOL.out; simp; omega) (by have := HOL.out; simp; omega) (by have := HS0.out; have := ht5.size; omega) ?_; intro v7 w7 hown7 hb7)
          | (go_simp; go_at_call 87; refine (openNearJ_any W H a cells.length cap b (L ++ q) q[k] _ (by exact hMd) hll hW (by omega) h64 hJ).mono ?_; rintro e w5 ⟨a5, cap5, rfl, hown5, hM5, ht5⟩))
        all_goals
          have ht6 := htd.trans ht5
          rw [nats_append] at hown7
          have hst : Hid (addB L q (nearM (geoOf J W H) cells.length q[k]) = q ++ addB (L ++ q) [] (nearM (geoOf J W H) cells.length q[k])) := addB_from _ _ _
          have hnx : Hid (Bq (nearM (geoOf J W H) cells.length) (zeroB cells (geoOf J W H)) L cells.length f (k + 1) (q ++ addB (L ++ q) [] (nearM (geoOf J W H) cells.length q[k]))) := by
            have := HB.out.next HN.out hend
            rw [if_pos Hz.out, hst.out] at this
            exact this
          have hM7 : Marks w7 b (L ++ (q ++ addB (L ++ q) [] (nearM (geoOf J W H) cells.length q[k]))) := by rw [← List.append_assoc]; exact hM5.kept (by omega) hb7
          have ht7 : Touch b w0 w7 := ht6.then hb7 (by rw [HS0.out]; exact Nat.le_refl _)
          clear hM5 hb7 ht6 ht5 hown5 htd hMd hownd
          go_wp2_with fail
          go_roundw
          case rel => exact ⟨k + 1, _, by simp; omega, nodup_le hnx.out.nodup hnx.out.lt, by go_num, hown7, hM7, ht7, hnx, by rw [Hid, HR.out, show cells.length - k = (cells.length - (k + 1)) + 1 by omega, bfs, dif_pos hend, if_pos Hz.out, hst.out]⟩
          case measure => simp [intOf]; omega
      · have hd2 : ((numM cells (geoOf J W H) q[k] : Int) == 0) = false := by simpa [zeroB] using hz
        have Hz := Lib.hid hz
        clear hz
        go_wp2_with fail
        go_roundw
        case rel => exact ⟨k + 1, q, by omega, hqn, by go_num, hown4, hM4, ht4, by have := HB.out.next HN.out hend; rw [if_neg Hz.out] at this; exact this, by rw [Hid, HR.out, show cells.length - k = (cells.length - (k + 1)) + 1 by omega, bfs, dif_pos hend, if_neg Hz.out]⟩
        case measure => simp [intOf]; omega
    · obtain rfl : k = q.length := by omega
      go_wp2_with fail
      rw [Exit.noGoto_normal]
      go_end0
      exact ⟨rfl, by rw [HR.out, bfs_stop]; exact hMr, (Touch.of hwB.out).trans htr⟩
/-- The same where rows are not joined. -/
theorem click_any (W H : Nat) (a : Option Addr) (cells : List UInt8) (cap : Nat) (b : Nat) (L : List Nat) (f : Nat) (w : World) (hat : At w a (byts cells)) (hM : Marks w b L) (hL : L.length ≤ 1000000) (hW : 1 ≤ W) (h64 : cells.length ≤ 64) (hf : f < cells.length) :
    Calls Tryd.prog 70 #[.agg #[.int .i64 W, .int .i64 H, .slice a cells.length cap, .bool false], .map (some b), .int .i64 f] w fun e w' => e = .returned (.tuple #[]) ∧
      Marks w' b (L ++ bfs (nearM W cells.length) (zeroB cells W) L cells.length 0 [f]) ∧ Touch b w w' :=
  clickJ_any W H a cells cap b L f w hat hM hL hW h64 hf nofun
end Go.Proofs.YtndmkbkmfonefacDoor

/- Opening: the cells for which a condition holds, by the program. -/
namespace Go.Proofs.YtndmkbkmfonefacDoor
open Go.RowKit

/-- The numbers below n for which p holds. -/
def filtM (p : Nat → Bool) (n : Nat) : List Nat := (List.range n).filter p
theorem filtM_le (p : Nat → Bool) (n : Nat) : (filtM p n).length ≤ n := by
  refine Nat.le_trans (List.length_filter_le _ _) ?_
  rw [List.length_range]
  exact Nat.le_refl n
theorem filtM_yes {p : Nat → Bool} {k : Nat} (h : p k = true) : filtM p (k + 1) = filtM p k ++ [k] := by
  simp [filtM, List.range_succ, List.filter_append, h]
theorem filtM_no {p : Nat → Bool} {k : Nat} (h : p k = false) : filtM p (k + 1) = filtM p k := by
  simp [filtM, List.range_succ, List.filter_append, h]

set_option maxRecDepth 100000 in
set_option maxHeartbeats 1600000 in
theorem pick_any {J : Bool} (W H : Nat) (a : Option Addr) (n cap : Nat) (p : Nat → Bool) (F : Nat) (first cp : Array Value) (w : World) (hn : n ≤ 64) (hE : ∀ (args : Array Value) (w' : World), (callFunc F args).run Tryd.prog w' = .ok (.enter F args) w')
    (hf : ∀ (w' : World) (k : Nat), Below w.heap.size w w' → k < n → Calls Tryd.prog F (first.push (.int .i64 (k : Int)) ++ cp) w' fun e w'' => e = .returned (.bool (p k)) ∧ Below w'.heap.size w' w'') :
    Calls Tryd.prog 57 #[.agg #[.int .i64 W, .int .i64 H, .slice a n cap, .bool J], .func (.func F) first cp] w fun e w' => ∃ a' cap', e = .returned (.slice a' (filtM p n).length cap') ∧ Owns w' w.heap.size 3 (.slice a' (filtM p n).length cap') (nats (filtM p n)) ∧ Below w.heap.size w w' := by
  have HF := Lib.hid hf
  clear hf
  go_enter Tryd.func57, Tryd.ntmps57
  go_wp2_with fail
  have hb0 : Below w.heap.size w (w.alloc (.cells #[.int .i64 W, .int .i64 H, .slice a n cap, .bool J] 42)) := (Below.refl _ _).alloc (Nat.le_refl _) _
  generalize w.alloc (.cells #[.int .i64 W, .int .i64 H, .slice a n cap, .bool J] 42) = w0 at *
  go_loopw [5, 10] (fun v i wr => ∃ k : Nat, k ≤ n ∧ i = .int .i64 k ∧ Owns wr w.heap.size 3 v (nats (filtM p k)) ∧ Below w.heap.size w wr) (fun _ i _ => n - (intOf i).toNat)
  case atStart => exact ⟨0, Nat.zero_le _, rfl, Owns.nil _ _ _, hb0⟩
  case round =>
    obtain ⟨k, hk, rfl, hown, hbr⟩ := hrel
    have hle := filtM_le p k
    have hsr := hbr.size
    by_cases hlt : k < n
    · cases hp : p k with
      | true =>
        have hc := HF.out wr k hbr hlt
        rw [hp] at hc
        have Hp := Lib.hid hp
        have HC := Lib.hid hc
        clear hp hc
        go_wp2_with fail
        refine HC.out.mono ?_
        rintro e w2 ⟨rfl, hb2⟩
        go_wp2_with (at_builtin; refine wpList_app1 rfl _ _ _ rfl _ _ _ _ elemInt _ _ _ _ rfl rfl rfl (hown.later hb2) rfl (by simp; omega) (by have := hb2.size; omega) (by simp; omega) ?_; intro v1 w3 hown1 hb3 hs3)
        rw [nats_snoc, ← filtM_yes Hp.out] at hown1
        go_roundw
        case rel => exact ⟨k + 1, by omega, by go_num, hown1, (hbr.trans (hb2.mono hsr)).trans hb3⟩
        case measure => simp [intOf]; omega
      | false =>
        have hc := HF.out wr k hbr hlt
        rw [hp] at hc
        have Hp := Lib.hid hp
        have HC := Lib.hid hc
        clear hp hc
        go_wp2_with fail
        refine HC.out.mono ?_
        rintro e w2 ⟨rfl, hb2⟩
        go_wp2_with fail
        go_roundw
        case rel => exact ⟨k + 1, by omega, by go_num, by rw [filtM_no Hp.out]; exact hown.later hb2, hbr.trans (hb2.mono hsr)⟩
        case measure => simp [intOf]; omega
    · obtain rfl : k = n := by omega
      go_wp2_with fail
      go_ret
      obtain ⟨a', cap', hv⟩ := hown.shape
      simp only [nats_length] at hv
      exact ⟨a', cap', by rw [← hv]; rfl, by rw [← hv]; exact hown, hbr⟩
end Go.Proofs.YtndmkbkmfonefacDoor

/- Opening: the cells that a click opens, by the program. -/
namespace Go.Proofs.YtndmkbkmfonefacDoor
open Go.RowKit

set_option maxRecDepth 100000 in
theorem pickOpen1_any (k c b : Nat) (L : List Nat) (w : World) (hc : w.cell? ⟨c, 0, none⟩ = some (.map (some b))) (hM : Marks w b L) (hk : k < 1099511627776) :
    Calls Tryd.prog 90 #[.int .i64 (k : Int), .pointer (some ⟨c, 0, none⟩)] w fun e w' => e = .returned (.bool (decide (k ∈ L))) ∧ w = w' := by
  have Hk : Hid (decide (k ∈ L) = decide (k ∈ L)) := rfl
  generalize hv : decide (k ∈ L) = v at *
  have Hv := Lib.hid hv
  clear hv Hk
  go_enter Tryd.func90, Tryd.ntmps90
  go_wp2_with (at_lookup; refine wpList_mark_look rfl _ _ rfl b _ rfl hM _ rfl hk v Hv.out ?_)
  go_ret
  exact ⟨rfl, rfl⟩
theorem enters_pickOpen1 (args : Array Value) (w' : World) : (callFunc 90 args).run Tryd.prog w' = .ok (.enter 90 args) w' := by
  go_simp

set_option maxRecDepth 100000 in
set_option maxHeartbeats 800000 in
theorem pickOpen_any {J : Bool} (W H : Nat) (a : Option Addr) (n cap : Nat) (b : Nat) (L : List Nat) (w : World) (hM : Marks w b L) (hn : n ≤ 64) :
    Calls Tryd.prog 78 #[.agg #[.int .i64 W, .int .i64 H, .slice a n cap, .bool J], .map (some b)] w fun e w' => ∃ a' cap', e = .returned (.slice a' (sortM n L).length cap') ∧ Owns w' w.heap.size 3 (.slice a' (sortM n L).length cap') (nats (sortM n L)) ∧ Below w.heap.size w w' := by
  have hbl := hM.lt
  go_enter Tryd.func78, Tryd.ntmps78
  go_wp2_with fail
  have hb2 : Below w.heap.size w ((w.alloc (.cells #[.int .i64 W, .int .i64 H, .slice a n cap, .bool J] 42)).alloc (.cells #[.map (some b)] 66)) := ((Below.refl _ w).alloc (Nat.le_refl _) _).alloc (by simp) _
  have hG : ((w.alloc (.cells #[.int .i64 W, .int .i64 H, .slice a n cap, .bool J] 42)).alloc (.cells #[.map (some b)] 66)).heap[w.heap.size + 1]? = some (.cells #[.map (some b)] 66 (0, 0)) := by
    have := heap_alloc_new (w.alloc (.cells #[.int .i64 W, .int .i64 H, .slice a n cap, .bool J] 42)) (.cells #[.map (some b)] 66)
    simpa using this
  have hM2 := hM.later hb2
  have hs2 : ((w.alloc (.cells #[.int .i64 W, .int .i64 H, .slice a n cap, .bool J] 42)).alloc (.cells #[.map (some b)] 66)).heap.size = w.heap.size + 2 := by simp
  generalize (w.alloc (.cells #[.int .i64 W, .int .i64 H, .slice a n cap, .bool J] 42)).alloc (.cells #[.map (some b)] 66) = w2 at *
  refine (pick_any W H a n cap (fun k => decide (k ∈ L)) 90 #[] #[.pointer (some ⟨w.heap.size + 1, 0, none⟩)] w2 hn enters_pickOpen1 ?_).mono ?_
  · intro w' k hb' hk
    have hc : w'.cell? ⟨w.heap.size + 1, 0, none⟩ = some (.map (some b)) := by
      have := cell_of_block ((hb'.block (w.heap.size + 1) (by omega)).trans hG) 0
      simpa using this
    refine (pickOpen1_any k (w.heap.size + 1) b L w' hc (hM2.later hb') (by omega)).mono ?_
    rintro e w3 ⟨rfl, rfl⟩
    exact ⟨rfl, Below.refl _ _⟩
  · rintro e w3 ⟨a', cap', rfl, hown3, hb3⟩
    go_wp2_with fail
    go_ret
    exact ⟨a', cap', rfl, hown3.mono (by omega), hb2.trans (hb3.mono (by omega))⟩

/-- The cells that a click on a cell opens, increasing. -/
def opM (cells : List UInt8) (W : Geo) (c : Nat) : List Nat := sortM cells.length (bfs (nearM W cells.length) (zeroB cells W) [] cells.length 0 [c])
theorem opM_le (cells : List UInt8) (W : Geo) (c : Nat) : (opM cells W c).length ≤ cells.length := sortM_le _ _

set_option maxRecDepth 100000 in
set_option maxHeartbeats 800000 in
theorem openedByJ_any {J : Bool} (W H : Nat) (a : Option Addr) (cells : List UInt8) (cap c : Nat) (w : World) (hat : At w a (byts cells)) (hW : 1 ≤ W) (h64 : cells.length ≤ 64) (hc : c < cells.length) (hJ : J = true → (1 ≤ W ∧ W ≤ 1048576) ∧ (1 ≤ H ∧ H ≤ 1048576)) :
    Calls Tryd.prog 48 #[.agg #[.int .i64 W, .int .i64 H, .slice a cells.length cap, .bool J], .int .i64 c] w fun e w' => ∃ a' cap', e = .returned (.slice a' (opM cells (geoOf J W H) c).length cap') ∧ Owns w' w.heap.size 3 (.slice a' (opM cells (geoOf J W H) c).length cap') (nats (opM cells (geoOf J W H) c)) ∧ Below w.heap.size w w' := by
  have HO : Hid (opM cells (geoOf J W H) c = sortM cells.length ([] ++ bfs (nearM (geoOf J W H) cells.length) (zeroB cells (geoOf J W H)) [] cells.length 0 [c])) := rfl
  have hb0 : Below w.heap.size w (w.alloc (.cells #[.int .i64 W, .int .i64 H, .slice a cells.length cap, .bool J] 42)) := (Below.refl _ _).alloc (Nat.le_refl _) _
  have hG0 : (w.alloc (.cells #[.int .i64 W, .int .i64 H, .slice a cells.length cap, .bool J] 42)).heap[w.heap.size]? = some (.cells #[.int .i64 W, .int .i64 H, .slice a cells.length cap, .bool J] 42 (0, 0)) := heap_alloc_new w _
  have hs0 : (w.alloc (.cells #[.int .i64 W, .int .i64 H, .slice a cells.length cap, .bool J] 42)).heap.size = w.heap.size + 1 := by simp
  have hmm := @run_makeMap Tryd.prog
  go_enter Tryd.func48, Tryd.ntmps48
  go_wp2_with fail
  have hf0 := cell_of_block hG0 0
  have hf1 := cell_of_block hG0 1
  have hf2 := cell_of_block hG0 2
  have hf3 := cell_of_block hG0 3
  have hat0 : At (w.alloc (.cells #[.int .i64 W, .int .i64 H, .slice a cells.length cap, .bool J] 42)) a (byts cells) := hat.later rfl hb0
  generalize w.alloc (.cells #[.int .i64 W, .int .i64 H, .slice a cells.length cap, .bool J] 42) = w0 at *
  have hb1 : Below w0.heap.size w0 (w0.alloc (.map #[] 0)) := (Below.refl _ _).alloc (Nat.le_refl _) _
  have hM1 := Marks.made w0
  have hat1 := hat0.later rfl hb1
  rw [hs0] at hM1
  have HG0 := Lib.hid hG0
  have HS0 := Lib.hid hs0
  clear hG0 hf0 hf1 hf2 hf3 hmm hs0
  refine (clickJ_any W H a cells cap (w.heap.size + 1) [] c _ hat1 hM1 (by simp) hW h64 hc hJ).mono ?_
  rintro e w2 ⟨rfl, hM2, ht2⟩
  have hs1 : w0.heap.size < (w0.alloc (.map #[] 0)).heap.size := by simp
  have hG2 : w2.heap[w.heap.size]? = some (.cells #[.int .i64 W, .int .i64 H, .slice a cells.length cap, .bool J] 42 (0, 0)) := by
    rw [ht2.block _ (by have := HS0.out; omega) (by simp), hb1.block _ (by have := HS0.out; omega)]
    exact HG0.out
  have hf0 := cell_of_block hG2 0
  have hf1 := cell_of_block hG2 1
  have hf2 := cell_of_block hG2 2
  have hf3 := cell_of_block hG2 3
  simp at hf0 hf1 hf2 hf3
  have hb2 : Below w.heap.size w w2 := (hb0.trans (hb1.mono (by have := HS0.out; omega))).trans (ht2.below (by omega) (by have := HS0.out; omega))
  have hG2lt := block_lt hG2
  clear hG2 ht2 hb1 hat1 hM1 hs1 hb0
  go_wp2_with fail
  refine (pickOpen_any W H a cells.length cap (w.heap.size + 1) _ _ hM2 h64).mono ?_
  rintro e w3 ⟨a', cap', rfl, hown3, hb3⟩
  rw [← HO.out] at hown3 ⊢
  go_wp2_with fail
  go_ret
  exact ⟨a', cap', rfl, hown3.mono (by omega), hb2.trans (hb3.mono (by omega))⟩
/-- The same where rows are not joined. -/
theorem openedBy_any (W H : Nat) (a : Option Addr) (cells : List UInt8) (cap c : Nat) (w : World) (hat : At w a (byts cells)) (hW : 1 ≤ W) (h64 : cells.length ≤ 64) (hc : c < cells.length) :
    Calls Tryd.prog 48 #[.agg #[.int .i64 W, .int .i64 H, .slice a cells.length cap, .bool false], .int .i64 c] w fun e w' => ∃ a' cap', e = .returned (.slice a' (opM cells W c).length cap') ∧ Owns w' w.heap.size 3 (.slice a' (opM cells W c).length cap') (nats (opM cells W c)) ∧ Below w.heap.size w w' :=
  openedByJ_any W H a cells cap c w hat hW h64 hc nofun
end Go.Proofs.YtndmkbkmfonefacDoor

/- Opening: a free cell of a board, and what a click on it opens, by the program. -/
namespace Go.Proofs.YtndmkbkmfonefacDoor
open Go.RowKit

/-- Is there a cell, and has it no mine? -/
def freeB (cells : List UInt8) (c : Int) : Bool := if 0 ≤ c ∧ c < cells.length then !(cells.getD c.toNat 0 == 42) else false
/-- Are there a board and a free cell? -/
def freeOK (l : List UInt8) (c : Int) : Bool := freeB (gCells l) c
theorem freeOK_yes {l : List UInt8} {c : Int} (h : freeOK l c = true) : boGoodM l = true ∧ ∃ k : Nat, c = k ∧ k < (gCells l).length ∧ (gCells l).getD k 0 ≠ 42 := by
  unfold freeOK freeB at h
  split at h
  · rename_i hc
    refine ⟨?_, c.toNat, by omega, by omega, by simpa using h⟩
    by_cases hg : boGoodM l = true
    · exact hg
    · have : gCells l = [] := by rw [gCells, if_neg hg]
      rw [this] at hc
      simp at hc
      omega
  · cases h
theorem freeB_at (cells : List UInt8) (k : Nat) (hk : k < cells.length) : freeB cells k = !(cells[k] == 42) := by
  unfold freeB
  rw [if_pos ⟨by omega, by omega⟩]
  simp [List.getD, hk]
theorem freeB_out (cells : List UInt8) (c : Int) (h : c < 0 ∨ (cells.length : Int) ≤ c) : freeB cells c = false := by
  unfold freeB
  rw [if_neg (by omega)]

set_option maxRecDepth 100000 in
theorem isFree_any {J : Bool} (W H : Nat) (a : Option Addr) (cells : List UInt8) (cap : Nat) (c : Int) (w : World) (hat : At w a (byts cells)) (hl : cells.length ≤ 64) :
    Calls Tryd.prog 58 #[.agg #[.int .i64 W, .int .i64 H, .slice a cells.length cap, .bool J], .int .i64 c] w fun e w' => e = .returned (.bool (freeB cells c)) ∧ Below w.heap.size w w' := by
  have hb0 : Below w.heap.size w (w.alloc (.cells #[.int .i64 W, .int .i64 H, .slice a cells.length cap, .bool J] 42)) := (Below.refl _ _).alloc (Nat.le_refl _) _
  have hG0 : (w.alloc (.cells #[.int .i64 W, .int .i64 H, .slice a cells.length cap, .bool J] 42)).heap[w.heap.size]? = some (.cells #[.int .i64 W, .int .i64 H, .slice a cells.length cap, .bool J] 42 (0, 0)) := heap_alloc_new w _
  have hs0 : w.heap.size < (w.alloc (.cells #[.int .i64 W, .int .i64 H, .slice a cells.length cap, .bool J] 42)).heap.size := by simp
  have hat0 : At (w.alloc (.cells #[.int .i64 W, .int .i64 H, .slice a cells.length cap, .bool J] 42)) a (byts cells) := hat.later rfl hb0
  have hc := fun w => hasCell_any (J := J) W H a cells.length cap c w
  by_cases hin : 0 ≤ c ∧ c < cells.length
  · obtain ⟨k, rfl⟩ : ∃ k : Nat, c = k := ⟨c.toNat, by omega⟩
    have hk : k < cells.length := by omega
    have HB := Lib.hid (freeB_at cells k hk)
    rw [show inC cells.length (k : Int) = true by simp [inC]; omega] at hc
    have hm := fun w h => isMine_any (J := J) W H a cells cap k w h hk hl
    have e : Hid (((cells[k].toNat : Int) == 42) = (cells[k] == 42)) := byte_beq cells[k] 42 (by omega)
    clear hin
    go_enter Tryd.func58, Tryd.ntmps58
    go_wp2_with fail
    generalize w.alloc (.cells #[.int .i64 W, .int .i64 H, .slice a cells.length cap, .bool J] 42) = w0 at *
    refine (hc _).mono ?_
    rintro e w1 ⟨rfl, hb1⟩
    have hG1 := (hb1.block _ hs0).trans hG0
    have hf0 := cell_of_block hG1 0
    have hf1 := cell_of_block hG1 1
    have hf2 := cell_of_block hG1 2
    have hf3 := cell_of_block hG1 3
    simp at hf0 hf1 hf2 hf3
    clear hG1 hG0
    go_wp2_with fail
    refine (hm _ (hat0.later rfl hb1)).mono ?_
    rintro e w2 ⟨rfl, hb2⟩
    go_wp2_with fail
    go_ret
    exact ⟨by rw [HB.out, ← e.out]; rfl, (hb0.trans (hb1.mono (by omega))).trans (hb2.mono (by have := hb1.size; omega))⟩
  · have HB := Lib.hid (freeB_out cells c (by omega))
    rw [show inC cells.length c = false by simp [inC]; omega] at hc
    go_enter Tryd.func58, Tryd.ntmps58
    go_wp2_with fail
    generalize w.alloc (.cells #[.int .i64 W, .int .i64 H, .slice a cells.length cap, .bool J] 42) = w0 at *
    refine (hc _).mono ?_
    rintro e w1 ⟨rfl, hb1⟩
    go_wp2_with fail
    go_ret
    exact ⟨by rw [HB.out]; rfl, hb0.trans (hb1.mono (by omega))⟩

set_option maxRecDepth 100000 in
set_option maxHeartbeats 1600000 in
theorem readFree_yes (l : List UInt8) (c : Int) (w : World) (hM : HasMax w) (hl : l.length ≤ 1048576) (hc : freeOK l c = true) :
    Calls Tryd.prog 45 #[.string ⟨l.toArray⟩, .int .i64 c] w fun e w' => ∃ a cap, e = .returned (.tuple #[.agg #[.int .i64 (gW l), .int .i64 (gH l), .slice a (gCells l).length cap, .bool false], .bool true])
      ∧ Owns w' w.heap.size 5 (.slice a (gCells l).length cap) (byts (gCells l)) ∧ Below w.heap.size w w' := by
  have HG := Lib.hid (freeOK_yes hc).1
  have HF : Hid (freeB (gCells l) c = true) := hc
  clear hc
  have h64 := gCells_le l
  go_enter Tryd.func45, Tryd.ntmps45
  go_wp2_with fail
  refine (readBoard_any l _ (hM.later ((Below.refl _ _).alloc (Nat.le_refl _) _)) hl).mono ?_
  rintro e w1 ⟨a, cap, rfl, hown, hb⟩
  have hR : w1.heap[w.heap.size]? = some (.cells #[.int .i64 0, .int .i64 0, .slice none 0 0, .bool false] 42 (0, 0)) := by
    rw [hb.block w.heap.size (by simp)]; exact heap_alloc_new w _
  have hs := hb.size
  simp at hs
  have hb' : Below w.heap.size w w1 := ((Below.refl _ w).alloc (Nat.le_refl _) _).trans (hb.mono (by simp))
  have hown' := hown.mono (B' := w.heap.size + 1) (by simp)
  clear hown hb
  rw [HG.out]
  go_wp2_with fail
  have hba : Below w1.heap.size w1 (w1.alloc (.cells #[.int .i64 (gW l), .int .i64 (gH l), .slice a (gCells l).length cap, .bool false] 42)) := (Below.refl _ _).alloc (Nat.le_refl _) _
  have hGa : (w1.alloc (.cells #[.int .i64 (gW l), .int .i64 (gH l), .slice a (gCells l).length cap, .bool false] 42)).heap[w1.heap.size]? = some (.cells #[.int .i64 (gW l), .int .i64 (gH l), .slice a (gCells l).length cap, .bool false] 42 (0, 0)) := heap_alloc_new w1 _
  have hsa : w1.heap.size < (w1.alloc (.cells #[.int .i64 (gW l), .int .i64 (gH l), .slice a (gCells l).length cap, .bool false] 42)).heap.size := by simp
  generalize w1.alloc (.cells #[.int .i64 (gW l), .int .i64 (gH l), .slice a (gCells l).length cap, .bool false] 42) = wa at *
  have hRa := (hba.block w.heap.size (by omega)).trans hR
  have howna := hown'.later hba
  have hif := isFree_any (J := false) (gW l) (gH l) a (gCells l) cap c wa howna.at h64
  rw [show freeB (gCells l) c = true from HF.out] at hif
  refine hif.mono ?_
  rintro e w2 ⟨rfl, hb2⟩
  have hs2 := hb2.size
  have hR2 := (hb2.block w.heap.size (by omega)).trans hRa
  have hG2 := (hb2.block w1.heap.size hsa).trans hGa
  have hown2 := howna.later hb2
  have hbw2 : Below w.heap.size w w2 := (hb'.trans (hba.mono (by omega))).trans (hb2.mono (by omega))
  clear hif hb2 hba hRa howna hGa hR hown' hb'
  have hf0 := cell_of_block hG2 0
  have hf1 := cell_of_block hG2 1
  have hf2 := cell_of_block hG2 2
  have hf3 := cell_of_block hG2 3
  have hR0 := cell_of_block hR2 0
  have hR1 := cell_of_block hR2 1
  have hR2' := cell_of_block hR2 2
  have hR3' := cell_of_block hR2 3
  simp at hR0 hR1 hR2' hR3' hf0 hf1 hf2 hf3
  have hq0 := frozen_of_block hR2 0
  have hq1 := frozen_of_block hR2 1
  have hq2 := frozen_of_block hR2 2
  have hq3 := frozen_of_block hR2 3
  have hRlt := block_lt hR2
  have hGlt := block_lt hG2
  have HR := Lib.hid hR2
  clear hR2 hG2
  go_wp2_with fail
  have b3 := block_set (block_set (block_set (block_set HR.out 0 (.int .i64 (gW l))) 1 (.int .i64 (gH l))) 2 (.slice a (gCells l).length cap)) 3 (.bool false)
  refine bodyPost_ret (v := .tuple #[.agg #[.int .i64 (gW l), .int .i64 (gH l), .slice a (gCells l).length cap, .bool false], .bool true]) ?_ rfl ?_
  · have r0 := cell_of_block b3 0
    have r1 := cell_of_block b3 1
    have r2 := cell_of_block b3 2
    have r3 := cell_of_block b3 3
    simp at r0 r1 r2 r3
    simp [results, Tryd.results45, go_sem, r0, r1, r2, r3]
  · have hst := (((hown2.set w.heap.size 0 (.int .i64 (gW l)) (by omega)).set w.heap.size 1 (.int .i64 (gH l)) (by omega)).set w.heap.size 2 (.slice a (gCells l).length cap) (by omega)).set w.heap.size 3 (.bool false) (by omega)
    exact ⟨a, cap, rfl, hst.mono (by omega), hbw2.trans ((((Below.set 0 _).trans (Below.set 1 _)).trans (Below.set 2 _)).trans (Below.set 3 _))⟩

theorem noGridF_ret {B : Nat} {w w' : World} {t0 t1 t2 t3 : Value} {r : List Value} (h : w'.heap[B]? = some (.cells #[.int .i64 0, .int .i64 0, .slice none 0 0, .bool false] 42 (0, 0))) {a : Act}
    (ha : a = { tmps := (t0 :: t1 :: t2 :: t3 :: .pointer (some ⟨B, 0, none⟩) :: .bool false :: r).toArray, defers := [] }) (hb : Below w.heap.size w w') :
    bodyPost Tryd.prog Tryd.f45 (fun e w' => e = .returned NoGrid ∧ Below w.heap.size w w') .ret a w' := by
  subst ha
  have r0 := cell_of_block h 0
  have r1 := cell_of_block h 1
  have r2 := cell_of_block h 2
  have r3 := cell_of_block h 3
  simp at r0 r1 r2 r3
  exact bodyPost_ret (v := NoGrid) (by simp [results, Tryd.results45, go_sem, r0, r1, r2, r3, NoGrid]) rfl ⟨rfl, hb⟩

set_option maxRecDepth 100000 in
set_option maxHeartbeats 1600000 in
theorem readFree_no (l : List UInt8) (c : Int) (w : World) (hM : HasMax w) (hl : l.length ≤ 1048576) (hc : freeOK l c = false) :
    Calls Tryd.prog 45 #[.string ⟨l.toArray⟩, .int .i64 c] w fun e w' => e = .returned NoGrid ∧ Below w.heap.size w w' := by
  have HF : Hid (freeB (gCells l) c = false) := hc
  clear hc
  by_cases hg : boGoodM l = true
  · have HG := Lib.hid hg
    clear hg
    have h64 := gCells_le l
    go_enter Tryd.func45, Tryd.ntmps45
    go_wp2_with fail
    refine (readBoard_any l _ (hM.later ((Below.refl _ _).alloc (Nat.le_refl _) _)) hl).mono ?_
    rintro e w1 ⟨a, cap, rfl, hown, hb⟩
    have hR : w1.heap[w.heap.size]? = some (.cells #[.int .i64 0, .int .i64 0, .slice none 0 0, .bool false] 42 (0, 0)) := by
      rw [hb.block w.heap.size (by simp)]; exact heap_alloc_new w _
    have hs := hb.size
    simp at hs
    have hb' : Below w.heap.size w w1 := ((Below.refl _ w).alloc (Nat.le_refl _) _).trans (hb.mono (by simp))
    have hown' := hown.mono (B' := w.heap.size + 1) (by simp)
    clear hown hb
    rw [HG.out]
    go_wp2_with fail
    have hba : Below w1.heap.size w1 (w1.alloc (.cells #[.int .i64 (gW l), .int .i64 (gH l), .slice a (gCells l).length cap, .bool false] 42)) := (Below.refl _ _).alloc (Nat.le_refl _) _
    have hGa : (w1.alloc (.cells #[.int .i64 (gW l), .int .i64 (gH l), .slice a (gCells l).length cap, .bool false] 42)).heap[w1.heap.size]? = some (.cells #[.int .i64 (gW l), .int .i64 (gH l), .slice a (gCells l).length cap, .bool false] 42 (0, 0)) := heap_alloc_new w1 _
    have hsa : w1.heap.size < (w1.alloc (.cells #[.int .i64 (gW l), .int .i64 (gH l), .slice a (gCells l).length cap, .bool false] 42)).heap.size := by simp
    generalize w1.alloc (.cells #[.int .i64 (gW l), .int .i64 (gH l), .slice a (gCells l).length cap, .bool false] 42) = wa at *
    have hRa := (hba.block w.heap.size (by omega)).trans hR
    have howna := hown'.later hba
    have hif := isFree_any (J := false) (gW l) (gH l) a (gCells l) cap c wa howna.at h64
    rw [show freeB (gCells l) c = false from HF.out] at hif
    refine hif.mono ?_
    rintro e w2 ⟨rfl, hb2⟩
    have hs2 := hb2.size
    have hR2 := (hb2.block w.heap.size (by omega)).trans hRa
    have hG2 := (hb2.block w1.heap.size hsa).trans hGa
    have hown2 := howna.later hb2
    have hbw2 : Below w.heap.size w w2 := (hb'.trans (hba.mono (by omega))).trans (hb2.mono (by omega))
    clear hif hb2 hba hRa howna hGa hR hown' hb'
    have hf0 := cell_of_block hG2 0
    have hf1 := cell_of_block hG2 1
    have hf2 := cell_of_block hG2 2
    have hf3 := cell_of_block hG2 3
    have hR0 := cell_of_block hR2 0
    have hR1 := cell_of_block hR2 1
    have hR2' := cell_of_block hR2 2
    have hR3' := cell_of_block hR2 3
    simp at hR0 hR1 hR2' hR3' hf0 hf1 hf2 hf3
    have hq0 := frozen_of_block hR2 0
    have hq1 := frozen_of_block hR2 1
    have hq2 := frozen_of_block hR2 2
    have hq3 := frozen_of_block hR2 3
    have hRlt := block_lt hR2
    have hGlt := block_lt hG2
    have HR := Lib.hid hR2
    clear hR2 hG2
    go_wp2_with fail
    have b3 := block_set (block_set (block_set (block_set HR.out 0 (.int .i64 0)) 1 (.int .i64 0)) 2 (.slice none 0 0)) 3 (.bool false)
    exact noGridF_ret b3 rfl (hbw2.trans ((((Below.set 0 _).trans (Below.set 1 _)).trans (Below.set 2 _)).trans (Below.set 3 _)))
  · have hg' : boGoodM l = false := by simpa using hg
    have HG := Lib.hid hg'
    clear hg hg'
    have h64 := gCells_le l
    go_enter Tryd.func45, Tryd.ntmps45
    go_wp2_with fail
    refine (readBoard_any l _ (hM.later ((Below.refl _ _).alloc (Nat.le_refl _) _)) hl).mono ?_
    rintro e w1 ⟨a, cap, rfl, hown, hb⟩
    have hR : w1.heap[w.heap.size]? = some (.cells #[.int .i64 0, .int .i64 0, .slice none 0 0, .bool false] 42 (0, 0)) := by
      rw [hb.block w.heap.size (by simp)]; exact heap_alloc_new w _
    have hs := hb.size
    simp at hs
    have hb' : Below w.heap.size w w1 := ((Below.refl _ w).alloc (Nat.le_refl _) _).trans (hb.mono (by simp))
    have hown' := hown.mono (B' := w.heap.size + 1) (by simp)
    clear hown hb
    rw [HG.out]
    have hR0 := cell_of_block hR 0
    have hR1 := cell_of_block hR 1
    have hR2 := cell_of_block hR 2
    have hR3 := cell_of_block hR 3
    simp at hR0 hR1 hR2 hR3
    have hq0 := frozen_of_block hR 0
    have hq1 := frozen_of_block hR 1
    have hq2 := frozen_of_block hR 2
    have hq3 := frozen_of_block hR 3
    have hRlt := block_lt hR
    have HR := Lib.hid hR
    clear hR
    go_wp2_with fail
    have b3 := block_set (block_set (block_set (block_set HR.out 0 (.int .i64 0)) 1 (.int .i64 0)) 2 (.slice none 0 0)) 3 (.bool false)
    exact noGridF_ret ((Below.heap_alloc _ _ _ (block_lt b3)).trans b3) rfl ((hb'.trans ((((Below.set 0 _).trans (Below.set 1 _)).trans (Below.set 2 _)).trans (Below.set 3 _))).alloc (by simp [World.setCell]; omega) _)

/-- What OpenedBy hands back. -/
def opOf (l : List UInt8) (c : Int) : List Nat := if freeOK l c = true then opM (gCells l) (gW l) c.toNat else []
theorem opOf_len (l : List UInt8) (c : Int) : (opOf l c).length ≤ 1048576 := by
  unfold opOf
  split
  · exact Nat.le_trans (opM_le _ _ _) (Nat.le_trans (gCells_le l) (by decide))
  · simp

end Go.Proofs.YtndmkbkmfonefacDoor
