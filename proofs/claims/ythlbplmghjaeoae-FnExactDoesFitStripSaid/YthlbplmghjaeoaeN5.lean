/- Walks: the numbers of all cells, by the model. -/
import Derived.Test.YthlbplmghjaeoaeN4
import Derived.Lib.OthersKept
import Derived.Outline
namespace Go.Proofs.Ythlbplmghjaeoae
open Go.RowKit

theorem iterAt_size (w : World) (i : Nat) (s : ByteArray) (p : Nat) : (w.iterAt i s p).heap.size = w.heap.size := by simp [World.iterAt]
theorem iterAt_at {w : World} {i : Nat} (h : i < w.heap.size) (s : ByteArray) (p : Nat) : (w.iterAt i s p).heap[i]? = some (.stringIter s p) := by
  simp [World.iterAt, h]
theorem iterAt_below (w : World) (i : Nat) (s : ByteArray) (p : Nat) : Below i w (w.iterAt i s p) :=
  ⟨rfl, rfl, rfl, by simp [World.iterAt], fun k hk => by simp only [World.iterAt, Array.getElem?_setIfInBounds]; rw [if_neg (by omega)]⟩
theorem iterPos_at {w : World} {i : Nat} {s : ByteArray} {p : Nat} (h : w.heap[i]? = some (.stringIter s p)) : w.iterPos i = p := by simp [World.iterPos, h]
theorem Owns.iter {w : World} {B e : Nat} {v : Value} {xs : List Value} (h : Owns w B e v xs) (i : Nat) (s : ByteArray) (p : Nat) (hi : i < B) : Owns (w.iterAt i s p) B e v xs := by
  obtain ⟨h1, h2⟩ := h
  refine ⟨h1, ?_⟩
  rcases h2 with h2 | ⟨g, cap, cur, hv, hg, hh, r⟩
  · exact .inl h2
  · exact .inr ⟨g, cap, cur, hv, hg, by simp only [World.iterAt, Array.getElem?_setIfInBounds]; rw [if_neg (by omega)]; exact hh, r⟩

/-- The cells of a board are two signs alone. -/
theorem cells_sign {l : List UInt8} (h : boGoodM l = true) : ∀ c ∈ cellsM l, c = 46 ∨ c = 42 := by
  obtain ⟨_, _, _, _, _, _, _, f8⟩ := readM_facts h
  intro c hc
  rw [← splitB_flatten] at hc
  obtain ⟨r, hr, hcr⟩ := List.mem_flatten.1 hc
  have := List.all_eq_true.1 (List.all_eq_true.1 f8 r hr) c hcr
  simpa [rowSign] using this
theorem sign_ascii {c : UInt8} (h : c = 46 ∨ c = 42) : c.toNat < 128 := by rcases h with rfl | rfl <;> decide

def numsGo (cells : List UInt8) (W : Geo) (k : Nat) : Nat → List Nat
  | 0 => []
  | m + 1 => numM cells W k :: numsGo cells W (k + 1) m
def numsM (cells : List UInt8) (W : Geo) : List Nat := numsGo cells W 0 cells.length
theorem numsGo_length (cells : List UInt8) (W : Geo) : ∀ (m k : Nat), (numsGo cells W k m).length = m
  | 0, _ => rfl
  | m + 1, k => by rw [numsGo, List.length_cons, numsGo_length]
@[simp] theorem numsM_length (cells : List UInt8) (W : Geo) : (numsM cells W).length = cells.length := numsGo_length _ _ _ _

/-- What rows give: their width, how many they are and their cells. -/
structure Grd (l : List UInt8) (W H : Nat) (cells : List UInt8) : Prop where
  size : boSizeM l = (W, H)
  cs : cellsM l = cells
  w1 : 1 ≤ W
  w8 : W ≤ 8
  h1 : 1 ≤ H
  h8 : H ≤ 8
  len : cells.length = W * H
theorem Grd.n64 {l : List UInt8} {W H : Nat} {cells : List UInt8} (h : Grd l W H cells) : cells.length ≤ 64 := by
  rw [h.len]; exact Nat.mul_le_mul h.w8 h.h8
theorem size_grid {p : UInt8 → Bool} {l : List UInt8} (h : gridM p l = true) : boSizeM l = (headLen (splitB 47 l), (splitB 47 l).length) := by
  obtain ⟨_, f1, f2, f3, f4, _, _, _⟩ := grid_facts h
  unfold boSizeM szOf
  rw [if_pos ⟨f1, f4, f2, f3⟩]
theorem Grd.of {p : UInt8 → Bool} {l : List UInt8} (h : gridM p l = true) : Grd l (grW p l) (grH p l) (grC p l) := by
  obtain ⟨_, f1, f2, f3, f4, f5, f6, _⟩ := grid_facts h
  rw [grW, grH, grC, if_pos h, if_pos h, if_pos h]
  exact ⟨size_grid h, rfl, f2, f3, f5, f4, f6⟩
/-- What a board gives: its width, its height and its cells. -/
structure Brd (l : List UInt8) (W H : Nat) (cells : List UInt8) : Prop where
  good : boGoodM l = true
  size : boSizeM l = (W, H)
  cs : cellsM l = cells
  w1 : 1 ≤ W
  w8 : W ≤ 8
  h1 : 1 ≤ H
  h8 : H ≤ 8
  len : cells.length = W * H
  sign : ∀ c ∈ cells, c = 46 ∨ c = 42
theorem Brd.grd {l : List UInt8} {W H : Nat} {cells : List UInt8} (h : Brd l W H cells) : Grd l W H cells := ⟨h.size, h.cs, h.w1, h.w8, h.h1, h.h8, h.len⟩
theorem Brd.of {l : List UInt8} (h : boGoodM l = true) : Brd l (headLen (splitB 47 l)) (splitB 47 l).length (cellsM l) := by
  obtain ⟨f1, f2, f3, f4, f5, f6, f7, f8⟩ := readM_facts h
  exact ⟨h, f6, rfl, f2, f3, f5, f4, f7, cells_sign h⟩
theorem Brd.n64 {l : List UInt8} {W H : Nat} {cells : List UInt8} (h : Brd l W H cells) : cells.length ≤ 64 := by
  rw [h.len]; exact Nat.mul_le_mul h.w8 h.h8
theorem Brd.grid {l : List UInt8} {W H : Nat} {cells : List UInt8} (h : Brd l W H cells) : gW l = W ∧ gH l = H ∧ gCells l = cells := by
  refine ⟨?_, ?_, ?_⟩
  · rw [gW, if_pos h.good, h.size]
  · rw [gH, if_pos h.good, h.size]
  · rw [gCells, if_pos h.good, h.cs]

end Go.Proofs.Ythlbplmghjaeoae
