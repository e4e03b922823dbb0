/- Groups of mines: groups by what was seen are groups by what is left (plain). -/
import Derived.Test.YtndmkbkmfonefabDoorQ6
import Derived.Outline
namespace Go.Proofs.YtndmkbkmfonefabDoor
open Go.RowKit
open scoped Classical

theorem mem_grpM (V : Geo) (W n : Nat) (X : List (Nat × Nat)) (c : Nat × Nat) (x : Nat) : x ∈ grpM V W n X c ↔ x < n ∧ ∃ p, Conn V X c p ∧ x = p.1 * W + p.2 := by
  unfold grpM
  rw [List.mem_filter, List.mem_range, decide_eq_true_iff]
theorem grpM_rise (V : Geo) (W n : Nat) (X : List (Nat × Nat)) (c : Nat × Nat) : (grpM V W n X c).Pairwise (· < ·) := List.Pairwise.filter _ List.pairwise_lt_range
/-- What a spot hangs together with lies in the part that is left, where the rest is closed. -/
theorem conn_left {V : Geo} {X0 X : List (Nat × Nat)} {c : Nat × Nat} (hX : ∀ p, p ∈ X → p ∈ X0) (hc : c ∈ X) (hcl : ∀ p q, p ∈ X → q ∈ X0 → nbS V p q = true → q ∈ X) : ∀ p, Conn V X0 c p ↔ Conn V X c p := by
  intro p
  constructor
  · intro h
    have : p ∈ X ∧ Conn V X c p := by
      induction h with
      | base => exact ⟨hc, .base⟩
      | step _ hq hn ih => exact ⟨hcl _ _ ih.1 hq hn, .step ih.2 (hcl _ _ ih.1 hq hn) hn⟩
    exact this.2
  · intro h
    induction h with
    | base => exact .base
    | step _ hq hn ih => exact .step ih (hX _ hq) hn
/-- What is left behind a group is closed again. -/
theorem left_closed {V : Geo} {X0 X : List (Nat × Nat)} {c : Nat × Nat} (hcl : ∀ p q, p ∈ X → q ∈ X0 → nbS V p q = true → q ∈ X) : ∀ p q, p ∈ X.filter (fun p => decide (¬ Conn V X c p)) → q ∈ X0 → nbS V p q = true → q ∈ X.filter (fun p => decide (¬ Conn V X c p)) := by
  intro p q hp hq hn
  rw [List.mem_filter, decide_eq_true_iff] at hp ⊢
  have hqX := hcl p q hp.1 hq hn
  refine ⟨hqX, fun hc => hp.2 (.step hc hp.1 ?_)⟩
  rw [nbS_symm]
  exact hn
/-- The groups of a list of cells as the model asks for them: S are the cells that were seen. -/
noncomputable def grpsSeen (V : Geo) (W n : Nat) (X0 : List (Nat × Nat)) : List Nat → List Nat → List (List Nat)
  | _, [] => []
  | S, k :: r => if k ∈ S then grpsSeen V W n X0 S r else grpM V W n X0 (spOf W k) :: grpsSeen V W n X0 (S ++ grpM V W n X0 (spOf W k)) r
theorem grps_same {V : Geo} {W n : Nat} (hW : 1 ≤ W) {X0 : List (Nat × Nat)} (h0 : ∀ p, p ∈ X0 → p.2 < W ∧ p.1 * W + p.2 < n) : ∀ (r : List Nat) (X : List (Nat × Nat)) (S : List Nat), (∀ k, k ∈ r → spOf W k ∈ X0) → (∀ p, p ∈ X → p ∈ X0) → (∀ p q, p ∈ X → q ∈ X0 → nbS V p q = true → q ∈ X) →
    (∀ p, p ∈ X0 → (p.1 * W + p.2 ∈ S ↔ p ∉ X)) → grpsSeen V W n X0 S r = grpsGo V W n X r
  | [], _, _, _, _, _, _ => rfl
  | k :: r, X, S, hr, hX, hcl, hS => by
    have hk := hr k List.mem_cons_self
    have hr2 := fun j hj => hr j (List.mem_cons_of_mem _ hj)
    have hks : k ∈ S ↔ spOf W k ∉ X := by
      have := hS _ hk
      rwa [(spOf_lt hW k).2] at this
    rw [grpsSeen, grpsGo]
    by_cases hin : spOf W k ∈ X
    · have hc := conn_left hX hin hcl
      have hg : grpM V W n X0 (spOf W k) = grpM V W n X (spOf W k) := by
        unfold grpM
        refine List.filter_congr (fun x _ => ?_)
        rw [decide_eq_decide]
        exact ⟨fun ⟨p, hp, e⟩ => ⟨p, (hc p).1 hp, e⟩, fun ⟨p, hp, e⟩ => ⟨p, (hc p).2 hp, e⟩⟩
      rw [if_neg (fun h => hks.1 h hin), if_pos hin, hg]
      congr 1
      refine grps_same hW h0 r _ _ hr2 (fun p hp => hX p (List.mem_filter.1 hp).1) (left_closed hcl) (fun p hp => ?_)
      rw [List.mem_append, hS p hp, List.mem_filter, decide_eq_true_iff]
      have hm : p.1 * W + p.2 ∈ grpM V W n X (spOf W k) ↔ Conn V X (spOf W k) p := by
        unfold grpM
        rw [List.mem_filter, List.mem_range, decide_eq_true_iff]
        constructor
        · rintro ⟨_, q, hq, e⟩
          have hqX : q ∈ X := by
            cases hq with
            | base => exact hin
            | step _ h _ => exact h
          have h1 := (h0 p hp).1
          have h2 := (h0 q (hX q hqX)).1
          have e1 : p.2 = q.2 := by
            have := congrArg (· % W) e
            simpa [Nat.mul_add_mod, Nat.mod_eq_of_lt h1, Nat.mod_eq_of_lt h2, Nat.add_comm, Nat.mul_comm, Nat.add_mul_mod_self_left] using this
          have e2 : p.1 = q.1 := Nat.eq_of_mul_eq_mul_right (show 0 < W by omega) (by omega)
          rw [Prod.ext e2 e1]
          exact hq
        · intro h
          exact ⟨(h0 p hp).2, p, h, rfl⟩
      rw [hm]
      constructor
      · rintro (h | h) ⟨h2, h3⟩
        · exact h h2
        · exact h3 h
      · intro h
        by_cases hp2 : p ∈ X
        · exact .inr (Classical.byContradiction fun h3 => h ⟨hp2, h3⟩)
        · exact .inl hp2
    · rw [if_pos (hks.2 hin), if_neg hin]
      exact grps_same hW h0 r X S hr2 hX hcl hS
end Go.Proofs.YtndmkbkmfonefabDoor
