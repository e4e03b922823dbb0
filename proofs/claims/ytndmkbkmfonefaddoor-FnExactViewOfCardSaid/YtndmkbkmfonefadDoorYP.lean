/- Opening: the best first clicks, by the program and by the model. -/
import Derived.Test.YtndmkbkmfonefadDoorYG
import Derived.Outline
namespace Go.Proofs.YtndmkbkmfonefadDoor
open Go.RowKit

/-- The cells with the most, told in their order, and how many. -/
def bcGo (f : Nat → Nat) : List Nat → List Nat → Nat → List Nat × Nat
  | [], b, m => (b, m)
  | c :: r, b, m => if m < f c then bcGo f r [c] (f c) else if f c = m then bcGo f r (b ++ [c]) m else bcGo f r b m
theorem bcGo_ge (f : Nat → Nat) : ∀ (r b : List Nat) (m : Nat), m ≤ (bcGo f r b m).2
  | [], _, _ => Nat.le_refl _
  | c :: r, b, m => by
    unfold bcGo
    split
    · have := bcGo_ge f r [c] (f c); omega
    · split
      · exact bcGo_ge f r _ m
      · exact bcGo_ge f r _ m
theorem bcGo_pos (f : Nat → Nat) (r : List Nat) (hf : ∀ c ∈ r, 0 < f c) (h : (bcGo f r [] 0).2 = 0) : (bcGo f r [] 0).1 = [] := by
  cases r with
  | nil => rfl
  | cons c r =>
    have h0 := hf c List.mem_cons_self
    rw [bcGo, if_pos h0] at h
    have := bcGo_ge f r [c] (f c)
    omega
theorem bcGo_len (f : Nat → Nat) : ∀ (r b : List Nat) (m : Nat), (bcGo f r b m).1.length ≤ b.length + r.length + 1
  | [], _, _ => by simp [bcGo]
  | c :: r, b, m => by
    unfold bcGo
    split
    · have := bcGo_len f r [c] (f c); simp at this; simp; omega
    · split
      · have := bcGo_len f r (b ++ [c]) m; simp at this; simp; omega
      · have := bcGo_len f r b m; simp; omega
theorem opM_self2 (cells : List UInt8) (W c : Nat) (hc : c < cells.length) : c ∈ opM cells W c := by
  rw [opM, mem_sortM (bfs_lt (nearM_lts W cells.length) hc), bfs0_mem (nearM_lts W cells.length) hc]
  exact .start
/-- The free cells. -/
def freeM (cells : List UInt8) : List Nat := filtM (fun k => freeB cells k) cells.length
theorem free_places (cells : List UInt8) (hs : ∀ c ∈ cells, c = 46 ∨ c = 42) : places 46 cells = freeM cells := by
  refine rise_ext (placesGo_rise 46 cells 0).1 (List.Pairwise.filter _ List.pairwise_lt_range) (fun x => ?_)
  rw [places, mem_placesGo, freeM, filtM, List.mem_filter, List.mem_range]
  constructor
  · rintro ⟨_, h⟩
    rw [Nat.sub_zero] at h
    obtain ⟨hx, he⟩ := List.getElem?_eq_some_iff.1 h
    exact ⟨hx, by rw [freeB_at cells x hx, he]; rfl⟩
  · rintro ⟨hx, h⟩
    rw [freeB_at cells x hx] at h
    refine ⟨Nat.zero_le _, ?_⟩
    rw [Nat.sub_zero, List.getElem?_eq_getElem hx]
    rcases hs _ (List.getElem_mem hx) with h2 | h2
    · rw [h2]
    · rw [h2] at h; simp at h
theorem freeM_lt (cells : List UInt8) (x : Nat) (h : x ∈ freeM cells) : x < cells.length := by
  rw [freeM, filtM, List.mem_filter, List.mem_range] at h
  exact h.1
theorem freeM_le (cells : List UInt8) : (freeM cells).length ≤ cells.length := filtM_le _ _

def bcM (cells : List UInt8) (W : Nat) : List Nat × Nat := bcGo (fun c => (opM cells W c).length) (freeM cells) [] 0
def bcOf (l : List UInt8) : List Nat := (bcM (gCells l) (gW l)).1
def bcMost (l : List UInt8) : Nat := (bcM (gCells l) (gW l)).2
def bcOK (l : List UInt8) : Bool := decide (0 < bcMost l)
theorem bcOf_len (l : List UInt8) : (bcOf l).length ≤ 1048576 := by
  have h1 := bcGo_len (fun c => (opM (gCells l) (gW l) c).length) (freeM (gCells l)) [] 0
  have h2 := freeM_le (gCells l)
  have h3 := gCells_le l
  unfold bcOf bcM
  simp only [List.length_nil] at h1
  omega
theorem bcOf_zero (l : List UInt8) (h : bcMost l = 0) : bcOf l = [] :=
  bcGo_pos _ _ (fun c hc => List.length_pos_of_mem (opM_self2 _ _ c (freeM_lt _ c hc))) h


end Go.Proofs.YtndmkbkmfonefadDoor
