/- Groups of mines: all groups, by the program. -/
import Derived.Test.YtggjponlgndghaaDoorQ5
import Derived.Test.YtggjponlgndghaaDoorGYF
import Derived.Outline
namespace Go.Proofs.YtggjponlgndghaaDoor
open Go.RowKit
open scoped Classical

/-- The cells below n that hang together with a spot, increasing. -/
noncomputable def grpM (V : Geo) (W n : Nat) (X : List (Nat × Nat)) (c : Nat × Nat) : List Nat := (List.range n).filter fun x => decide (∃ p, Conn V X c p ∧ x = p.1 * W + p.2)
/-- The groups of a list of cells, X being the spots that are left. -/
noncomputable def grpsGo (V : Geo) (W n : Nat) : List (Nat × Nat) → List Nat → List (List Nat)
  | _, [] => []
  | X, k :: r => if spOf W k ∈ X then grpM V W n X (spOf W k) :: grpsGo V W n (X.filter fun p => decide (¬ Conn V X (spOf W k) p)) r else grpsGo V W n X r
/-- What GroupsOfMines hands back. -/
noncomputable def gomM (l : List UInt8) : List (List Nat) := grpsGo (gW l) (gW l) (gCells l).length ((minM (gCells l)).map (spOf (gW l))) (minM (gCells l))

theorem grp_eq {V : Geo} {W n : Nat} {X G : List (Nat × Nat)} {c : Nat × Nat} {R : List Nat} (hr : R.Pairwise (· < ·)) (hR : ∀ x, x ∈ R ↔ ∃ p : Nat × Nat, p ∈ G ∧ x = p.1 * W + p.2) (hG : ∀ p, p ∈ G ↔ Conn V X c p) (hX : ∀ p, p ∈ G → p.1 * W + p.2 < n) : R = grpM V W n X c := by
  refine rise_ext hr (List.Pairwise.filter _ List.pairwise_lt_range) (fun x => ?_)
  rw [hR x, grpM, List.mem_filter, List.mem_range, decide_eq_true_iff]
  constructor
  · rintro ⟨p, hp, rfl⟩
    exact ⟨hX p hp, p, (hG p).1 hp, rfl⟩
  · rintro ⟨_, p, hp, rfl⟩
    exact ⟨p, (hG p).2 hp, rfl⟩
theorem left_eq {V : Geo} {X G : List (Nat × Nat)} {c : Nat × Nat} (hG : ∀ p, p ∈ G ↔ Conn V X c p) : X.filter (fun p => decide (p ∉ G)) = X.filter (fun p => decide (¬ Conn V X c p)) := by
  refine List.filter_congr (fun p _ => ?_)
  rw [decide_eq_decide, hG p]

/-- Rows of a family stay where another block is touched; a new row comes. -/
theorem Fam.touch {w w' : World} {B b : Nat} {F : List Rw} (h : Fam w B F) (ht : Touch b w w') (hb : b < B) : Fam w' B F := ⟨fun x hx => (h.own x hx).touch ht hb, h.apart⟩
theorem Fam.fresh2 {w w' : World} {B b e : Nat} {v : Value} {xs : List Value} {F : List Rw} (h : Fam w B F) (ht : Touch b w w') (hb : b < B) (ho : Owns w' w.heap.size e v xs) (hB : B ≤ w.heap.size) : Fam w' B ((v, e, xs) :: F) := by
  refine ⟨?_, List.pairwise_cons.2 ⟨?_, h.apart⟩⟩
  · intro x hx
    rcases List.mem_cons.1 hx with rfl | hx
    · exact ho.mono hB
    · exact (h.own x hx).touch ht hb
  · intro y hy
    exact (Apart.fresh (h.own y hy) (fun k hk => (ho.lt k hk).1)).symm

theorem places_eqm (cells : List UInt8) : places 42 cells = minM cells := rfl
theorem spOf_lt {W : Nat} (hW : 1 ≤ W) (k : Nat) : (spOf W k).2 < W ∧ (spOf W k).1 * W + (spOf W k).2 = k :=
  ⟨Nat.mod_lt _ (by omega), Nat.div_add_mod' k W⟩


end Go.Proofs.YtggjponlgndghaaDoor
