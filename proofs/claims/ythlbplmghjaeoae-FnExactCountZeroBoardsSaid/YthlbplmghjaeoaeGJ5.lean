/- J5, J6, laid as one text. -/
import Derived.Test.YthlbplmghjaeoaeGJ2
import Derived.Test.YthlbplmghjaeoaeN9
import Derived.Outline

/- Counts by the model: the sum of numbers of the cells of a board. -/
namespace Go.Proofs.Ythlbplmghjaeoae
open Go.RowKit

/-- Signs of a board alone. -/
def Brd2 (cells : List UInt8) : Prop := ∀ c ∈ cells, c = 46 ∨ c = 42
theorem Brd2.asc {cells : List UInt8} (h : Brd2 cells) {k : Nat} (hk : k < cells.length) : cells[k].toNat < 128 := by
  rcases h _ (List.getElem_mem hk) with e | e <;> rw [e] <;> decide
theorem ctB_brd (n m : Nat) : Brd2 (ctB n m) := by
  intro c hc
  obtain ⟨i, _, rfl⟩ := List.mem_map.1 hc
  split
  · exact .inl rfl
  · exact .inr rfl
theorem allM_brd {n : Nat} {mines : Int} {c : List UInt8} (h : c ∈ allM n mines) : Brd2 c := by
  obtain ⟨h1, _⟩ := List.mem_filter.1 h
  obtain ⟨m, _, rfl⟩ := List.mem_map.1 h1
  exact ctB_brd n m

end Go.Proofs.Ythlbplmghjaeoae

/- Counts by the model: boards with no two mines beside each other. -/
namespace Go.Proofs.Ythlbplmghjaeoae
open Go.RowKit

theorem allR_step (p : Nat → Bool) {k n : Nat} (h : k < n) : (List.range' k (n - k)).all p = (p k && (List.range' (k + 1) (n - (k + 1))).all p) := by
  rw [show n - k = (n - (k + 1)) + 1 by omega, List.range'_succ, List.all_cons]
theorem allR_zero (p : Nat → Bool) (n : Nat) : (List.range n).all p = (List.range' 0 (n - 0)).all p := by rw [List.range_eq_range', Nat.sub_zero]
theorem anyR_step (p : Nat → Bool) {k n : Nat} (h : k < n) : (List.range' k (n - k)).any p = (p k || (List.range' (k + 1) (n - (k + 1))).any p) := by
  rw [show n - k = (n - (k + 1)) + 1 by omega, List.range'_succ, List.any_cons]
theorem anyR_zero (p : Nat → Bool) (n : Nat) : (List.range n).any p = (List.range' 0 (n - 0)).any p := by rw [List.range_eq_range', Nat.sub_zero]

/-- Is there no mine beside a mine? -/
def apaB (cells : List UInt8) (W k : Nat) : Bool := !(decide (cells.getD k 0 = 42) && decide (0 < numM cells W k))
def aptB (cells : List UInt8) (W : Nat) : Bool := (List.range cells.length).all (apaB cells W)
def aptM (cells : List UInt8) (W : Nat) : Int := if aptB cells W = true then ((places 42 cells).length : Int) else -1


/-- What CountMostApart hands back. -/
def mostA (W H : Nat) : Int := ((W : Int) + 1) / 2 * (((H : Int) + 1) / 2)
def cmB (W H : Nat) (cells : List UInt8) : Bool := decide (aptM cells W = mostA W H)
def cmM (w h : Int) : Nat := if szB w h 12 = true then ((allM (w.toNat * h.toNat) (-1)).filter (cmB w.toNat h.toNat)).length else 0
theorem filt_snoc {p : List UInt8 → Bool} (L : List (List UInt8)) {k : Nat} (hk : k < L.length) : ((L.take (k + 1)).filter p).length = ((L.take k).filter p).length + if p L[k] = true then 1 else 0 := by
  rw [List.take_succ_eq_append_getElem hk, List.filter_append, List.length_append]
  by_cases h : p L[k] = true <;> simp [h]

end Go.Proofs.Ythlbplmghjaeoae
