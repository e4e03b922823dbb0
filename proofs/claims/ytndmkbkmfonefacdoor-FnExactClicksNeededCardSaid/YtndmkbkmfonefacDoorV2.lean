/- Cells open behind clicks, and the clicks that open nothing new: the model of it. -/
import Derived.Test.YtndmkbkmfonefacDoorV1
import Derived.Test.YtndmkbkmfonefacDoorGYB
namespace Go.Proofs.YtndmkbkmfonefacDoor
open Go.RowKit

/-- What clicks make open, one after another; and the indices of those that open nothing new. -/
def aftL (cells : List UInt8) (W : Nat) (L : List Nat) : List Nat → List Nat
  | [] => L
  | c :: r => aftL cells W (L ++ opM cells W c) r
def aftM (cells : List UInt8) (W : Nat) (cs : List Nat) : List Nat := sortM cells.length (aftL cells W [] cs)
def sameB (cells : List UInt8) (W : Nat) (L : List Nat) (c : Nat) : Bool := (sortM cells.length (L ++ opM cells W c)).length == (sortM cells.length L).length
def needGo (cells : List UInt8) (W : Nat) (L : List Nat) (k : Nat) : List Nat → List Nat
  | [] => []
  | c :: r => (if sameB cells W L c = true then [k] else []) ++ needGo cells W (L ++ opM cells W c) (k + 1) r
def needM (cells : List UInt8) (W : Nat) (cs : List Nat) : List Nat := needGo cells W [] 0 cs

theorem zGo_mem (cells : List UInt8) (W : Nat) (s : UInt8) (x : Nat) : ∀ (m k : Nat), k ≤ x → x < k + m → cells.getD x 0 = s → numM cells W x = 0 → x ∈ zGo cells W s k m
  | 0, k, h1, h2, _, _ => by omega
  | m + 1, k, h1, h2, h3, h4 => by
    unfold zGo
    by_cases e : k = x
    · subst e; rw [if_pos ⟨h3, h4⟩]; exact List.mem_cons_self
    · have ih := zGo_mem cells W s x m (k + 1) (by omega) (by omega) h3 h4
      split
      · exact List.mem_cons_of_mem _ ih
      · exact ih
theorem not_zero {cells : List UInt8} {W c : Nat} (hc : c < cells.length) (hs : cells.getD c 0 = 46) (h : c ∉ zerosM cells W) : zeroB cells W c = false := by
  by_cases z : numM cells W c = 0
  · exact absurd (zGo_mem cells W 46 c cells.length 0 (by omega) (by omega) hs z) h
  · simp [zeroB, z]
theorem opM_lt (cells : List UInt8) (W c : Nat) : ∀ x ∈ opM cells W c, x < cells.length := by
  intro x hx
  simp only [opM, sortM, List.mem_filter, List.mem_range] at hx
  exact hx.1
theorem opM_alone {cells : List UInt8} {W c : Nat} (hc : c < cells.length) (hz : zeroB cells W c = false) (x : Nat) : x ∈ opM cells W c ↔ x = c := by
  rw [opM, mem_sortM (bfs_lt (nearM_lts W cells.length) hc), bfs0_mem (nearM_lts W cells.length) hc]
  constructor
  · intro h
    induction h with
    | start => rfl
    | step h1 h2 h3 ih => subst ih; rw [hz] at h2; cases h2
  · rintro rfl; exact .start
theorem aft_lt {cells : List UInt8} {W : Nat} {L : List Nat} (hL : ∀ x ∈ L, x < cells.length) (c : Nat) : ∀ x ∈ L ++ opM cells W c, x < cells.length := by
  intro x hx
  rcases List.mem_append.1 hx with h | h
  · exact hL x h
  · exact opM_lt cells W c x h
/-- A click on an open cell that is no zero. -/
theorem skip_same {cells : List UInt8} {W c : Nat} {L : List Nat} (hc : c < cells.length) (hz : zeroB cells W c = false) (h : c ∈ L) : sortM cells.length (L ++ opM cells W c) = sortM cells.length L := by
  apply sortM_congr
  intro x
  rw [List.mem_append, opM_alone hc hz]
  exact ⟨fun q => by rcases q with q | rfl <;> assumption, .inl⟩
theorem sort_mem {n : Nat} {L : List Nat} (hL : ∀ x ∈ L, x < n) {x : Nat} (h : x ∈ sortM n L) (t : List Nat) : sortM n (L ++ x :: t) = sortM n (L ++ t) := by
  apply sortM_congr
  intro y
  have := (mem_sortM hL x).1 h
  simp only [List.mem_append, List.mem_cons]
  constructor
  · rintro (q | rfl | q)
    · exact .inl q
    · exact .inl this
    · exact .inr q
  · rintro (q | q)
    · exact .inl q
    · exact .inr (.inr q)
theorem need_len (cells : List UInt8) (W : Nat) : ∀ (r : List Nat) (L : List Nat) (k : Nat), (needGo cells W L k r).length ≤ r.length
  | [], _, _ => by simp [needGo]
  | c :: r, L, k => by
    have := need_len cells W r (L ++ opM cells W c) (k + 1)
    unfold needGo; split <;> simp <;> omega
end Go.Proofs.YtndmkbkmfonefacDoor
