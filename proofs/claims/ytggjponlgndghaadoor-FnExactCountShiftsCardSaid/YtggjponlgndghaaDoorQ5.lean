/- Groups of mines: a group is taken out of the spots that are left. -/
import Derived.Test.YtggjponlgndghaaDoorQ4
import Derived.Test.YtggjponlgndghaaDoorU1
import Derived.Test.YtggjponlgndghaaDoorYK
import Derived.Outline
namespace Go.Proofs.YtggjponlgndghaaDoor
open Go.RowKit

theorem dist_comm (a b : Nat) : dist a b = dist b a := by unfold dist; omega
theorem nbJ_symm (J : Bool) (W H a b c d : Nat) : areNbJ J W H a b c d = areNbJ J W H c d a b := by
  have e : (a == c && b == d) = (c == a && d == b) := by
    rw [Bool.eq_iff_iff]
    simp only [Bool.and_eq_true, beq_iff_eq]
    omega
  unfold areNbJ tchJ
  rw [e, dist_comm a c, dist_comm b d]
theorem nbS_symm (V : Geo) (p q : Nat × Nat) : nbS V p q = nbS V q p := by
  cases V with
  | plain W =>
    show areNb q.1 q.2 p.1 p.2 = areNb p.1 p.2 q.1 q.2
    rw [← areNb_false 0 0, ← areNb_false 0 0]
    exact nbJ_symm _ _ _ _ _ _ _
  | around W H => exact nbJ_symm _ _ _ _ _ _ _
/-- Spots that hang together with one, by steps from neighbour to neighbour in a list. -/
inductive Conn (V : Geo) (X : List (Nat × Nat)) (c : Nat × Nat) : Nat × Nat → Prop
  | base : Conn V X c c
  | step {p q : Nat × Nat} : Conn V X c p → q ∈ X → nbS V p q = true → Conn V X c q
theorem conn_closed {V : Geo} {X G : List (Nat × Nat)} {c : Nat × Nat} (hc : c ∈ G) (h : ∀ p, p ∈ G → ∀ q, q ∈ X → nbS V p q = true → q ∈ G) : ∀ p, Conn V X c p → p ∈ G := by
  intro p hp
  induction hp with
  | base => exact hc
  | step _ hq hn ih => exact h _ ih _ hq hn

theorem Own2.one (w : World) (B : Nat) (p : Nat × Nat) (hB : B ≤ w.heap.size) : Own2 (w.alloc (.cells #[.int .i64 (p.1 : Int), .int .i64 (p.2 : Int)] 69)) B (.slice (some ⟨w.heap.size, 0, none⟩) 1 1) [p] :=
  ⟨rfl, .inr ⟨w.heap.size, 1, #[.int .i64 (p.1 : Int), .int .i64 (p.2 : Int)], rfl, hB, heap_alloc_new w _, Nat.le_refl _, by unfold maxLen; omega, rfl, rfl⟩⟩
/-- One step of a group: behind takeNear. -/
theorem group_step {V : Geo} {L G N : List (Nat × Nat)} {s : Nat × Nat} (hG : G.Nodup) (hN : N.Nodup) (hm : ∀ p, p ∈ N ↔ p ∈ L.filter (fun p => decide (p ∉ G)) ∧ nbS V s p = true) :
    (G ++ N).Nodup ∧ (L.filter (fun p => decide (p ∉ G))).filter (fun p => !nbS V s p) = L.filter (fun p => decide (p ∉ G ++ N)) := by
  constructor
  · rw [List.nodup_append]
    refine ⟨hG, hN, fun p hp q hq e => ?_⟩
    subst e
    have := ((hm p).1 hq).1
    simp at this
    exact this.2 hp
  · rw [List.filter_filter]
    refine List.filter_congr (fun p hp => ?_)
    have hq : p ∈ N ↔ p ∉ G ∧ nbS V s p = true := by rw [hm p]; simp [hp]
    by_cases h1 : p ∈ G
    · simp [h1]
    · by_cases h2 : nbS V s p = true
      · have : p ∈ N := hq.2 ⟨h1, h2⟩
        simp [h2, this]
      · have : p ∉ N := fun q => h2 (hq.1 q).2
        simp [h1, h2, this]
theorem nodup_sub {G L : List (Nat × Nat)} (hG : G.Nodup) (h : ∀ p, p ∈ G → p ∈ L) : G.length ≤ L.length := by
  induction G generalizing L with
  | nil => simp
  | cons x r ih =>
    rw [List.nodup_cons] at hG
    have hx := h x List.mem_cons_self
    have h2 := ih hG.2 (L := L.erase x) (fun p hp => by
      have hne : p ≠ x := fun e => hG.1 (e ▸ hp)
      exact (List.mem_erase_of_ne hne).2 (h p (List.mem_cons_of_mem _ hp)))
    rw [List.length_erase_of_mem hx] at h2
    have : 0 < L.length := List.length_pos_of_mem hx
    simp only [List.length_cons]
    omega

theorem Spots.grown {w w' : World} {b n : Nat} {L : List (Nat × Nat)} {row : Option Nat} (h : Spots w b n L) (hg : w.grownBy w' row) (hb : some b ≠ row) : Spots w' b n L := by
  obtain ⟨D, h1, h2⟩ := h
  exact ⟨D, World.ownsMap.kept h1 hg hb, h2⟩
theorem cells_nodup {W : Nat} {G : List (Nat × Nat)} (hG : G.Nodup) (h : ∀ p ∈ G, p.2 < W) : (G.map fun p => p.1 * W + p.2).Nodup := by
  induction G with
  | nil => simp
  | cons x r ih =>
    rw [List.nodup_cons] at hG
    rw [List.map_cons, List.nodup_cons]
    refine ⟨fun hm => ?_, ih hG.2 (fun p hp => h p (List.mem_cons_of_mem _ hp))⟩
    obtain ⟨p, hp, he⟩ := List.mem_map.1 hm
    have h1 := h p (List.mem_cons_of_mem _ hp)
    have h2 := h x List.mem_cons_self
    have e1 : p.2 = x.2 := by
      have := congrArg (· % W) he
      simpa [Nat.mul_add_mod, Nat.mod_eq_of_lt h1, Nat.mod_eq_of_lt h2, Nat.add_comm, Nat.mul_comm, Nat.add_mul_mod_self_left] using this
    have e2 : p.1 = x.1 := by
      have h3 : p.1 * W = x.1 * W := by omega
      exact Nat.eq_of_mul_eq_mul_right (by omega) h3
    exact hG.1 (by rw [← Prod.ext e2 e1]; exact hp)

end Go.Proofs.YtggjponlgndghaaDoor
