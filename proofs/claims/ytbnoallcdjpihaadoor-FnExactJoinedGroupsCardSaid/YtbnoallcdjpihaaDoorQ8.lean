/- Groups of mines: all groups, by the model. -/
import Derived.Test.YtbnoallcdjpihaaDoorQ7
import Derived.Test.YtbnoallcdjpihaaDoorGY8
import Derived.Test.YtbnoallcdjpihaaDoorGYB
import Derived.Outline
namespace Go.Proofs.YtbnoallcdjpihaaDoor
open Go.RowKit

/-- The neighbours that are in a list and not in the queue come behind it. -/
def addM (ms : List Nat) : List Nat → List Nat → List Nat
  | q, [] => q
  | q, x :: r => if x ∈ ms ∧ x ∉ q then addM ms (q ++ [x]) r else addM ms q r
theorem mem_addM (ms : List Nat) : ∀ (r q : List Nat) (x : Nat), x ∈ addM ms q r ↔ x ∈ q ∨ (x ∈ r ∧ x ∈ ms)
  | [], q, x => by simp [addM]
  | y :: r, q, x => by
    rw [addM]
    split
    · rename_i h
      rw [mem_addM ms r]
      rw [List.mem_append, List.mem_singleton, List.mem_cons]
      constructor
      · rintro ((h1 | rfl) | h1)
        · exact .inl h1
        · exact .inr ⟨.inl rfl, h.1⟩
        · exact .inr ⟨.inr h1.1, h1.2⟩
      · rintro (h1 | ⟨rfl | h1, h2⟩)
        · exact .inl (.inl h1)
        · exact .inl (.inr rfl)
        · exact .inr ⟨h1, h2⟩
    · rename_i h
      rw [mem_addM ms r]
      simp only [List.mem_cons]
      constructor
      · rintro (h1 | h1)
        · exact .inl h1
        · exact .inr ⟨.inr h1.1, h1.2⟩
      · rintro (h1 | ⟨rfl | h1, h2⟩)
        · exact .inl h1
        · exact .inl (Classical.byContradiction fun h3 => h ⟨h2, h3⟩)
        · exact .inr ⟨h1, h2⟩
theorem addM_snoc (ms : List Nat) (x : Nat) : ∀ (r q : List Nat), addM ms q (r ++ [x]) = if x ∈ ms ∧ x ∉ addM ms q r then addM ms q r ++ [x] else addM ms q r
  | [], q => by by_cases h : x ∈ ms ∧ x ∉ q <;> simp [addM, h]
  | y :: r, q => by
    rw [List.cons_append, addM, addM]
    split
    · exact addM_snoc ms x r _
    · exact addM_snoc ms x r _
theorem addM_pre (ms : List Nat) : ∀ (r q : List Nat), ∃ t, addM ms q r = q ++ t
  | [], q => ⟨[], by simp [addM]⟩
  | y :: r, q => by
    rw [addM]
    split
    · obtain ⟨t, ht⟩ := addM_pre ms r (q ++ [y])
      exact ⟨y :: t, by rw [ht]; simp⟩
    · exact addM_pre ms r q
theorem addM_nodup (ms : List Nat) : ∀ (r q : List Nat), q.Nodup → (addM ms q r).Nodup
  | [], q, h => by simpa [addM] using h
  | y :: r, q, h => by
    rw [addM]
    split
    · rename_i h1
      refine addM_nodup ms r _ ?_
      rw [List.nodup_append]
      exact ⟨h, by simp, fun a ha b hb e => by simp at hb; subst hb; subst e; exact h1.2 ha⟩
    · exact addM_nodup ms r q h
theorem grpsSeen_congr {V : Geo} {W n : Nat} {X0 : List (Nat × Nat)} : ∀ (r S S' : List Nat), (∀ x, x ∈ S ↔ x ∈ S') → grpsSeen V W n X0 S r = grpsSeen V W n X0 S' r
  | [], _, _, _ => rfl
  | k :: r, S, S', h => by
    rw [grpsSeen, grpsSeen]
    by_cases hk : k ∈ S
    · rw [if_pos hk, if_pos ((h k).1 hk)]
      exact grpsSeen_congr r S S' h
    · rw [if_neg hk, if_neg (fun q => hk ((h k).2 q))]
      congr 1
      exact grpsSeen_congr r _ _ (fun x => by rw [List.mem_append, List.mem_append, h x])

theorem perm_out {α : Type} (o g s q : α) (r : List α) : (o :: g :: s :: q :: r).Perm (q :: s :: o :: (r ++ [g])) := by
  have h1 : (o :: g :: s :: q :: r).Perm (s :: q :: o :: g :: r) := (List.perm_append_comm (l₁ := [o, g]) (l₂ := [s, q])).append_right r
  have h2 : (s :: q :: o :: g :: r).Perm (q :: s :: o :: g :: r) := List.Perm.swap q s _
  exact (h1.trans h2).trans (((List.perm_append_singleton g r).symm.cons o).cons s |>.cons q)
theorem Fam.fresh1 {w : World} {B e : Nat} {v : Value} {xs : List Value} (_h : Fam w B []) (ho : Owns w B e v xs) : Fam w B [(v, e, xs)] :=
  ⟨fun x hx => by rw [List.mem_singleton] at hx; subst hx; exact ho, List.pairwise_singleton _ _⟩
theorem nbW_sp (W c x : Nat) : nbW W c x = nbS W (spOf W c) (spOf W x) := rfl
theorem nbW_spA (W H c x : Nat) : nbW (.around W H) c x = nbS (.around W H) (spOf W c) (spOf W x) := rfl
theorem nearGo_filt (W : Geo) (c : Nat) : ∀ (m k : Nat), nearGo W c k m = (List.range' k m).filter (nbW W c)
  | 0, _ => rfl
  | m + 1, k => by
    rw [nearGo, List.range'_succ, List.filter_cons, nearGo_filt W c m (k + 1)]
theorem mem_nearM (W : Geo) (n c x : Nat) : x ∈ nearM W n c ↔ x < n ∧ nbW W c x = true := by
  rw [nearM, nearGo_filt, ← List.range_eq_range', List.mem_filter, List.mem_range]

end Go.Proofs.YtbnoallcdjpihaaDoor
