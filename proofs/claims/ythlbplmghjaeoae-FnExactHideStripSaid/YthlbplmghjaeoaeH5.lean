/- Strips: ways, added up by the program. -/
import Derived.Test.YthlbplmghjaeoaeH1
import Derived.Test.YthlbplmghjaeoaeGY1
import Derived.Outline
import Derived.Laws.Rows
import Derived.Laws.Tables
import Derived.Laws.CopyRow
import Derived.Deep.MidRow
import Derived.Laws.CopyOwn
import Derived.Deep.DeepCutAuto
namespace Go.Proofs.Ythlbplmghjaeoae
open Go.RowKit

/-- Forty-one numbers. -/
def wvL (f : Nat → Nat) : List Value := (List.range 41).map fun k => Value.int .i64 (f k : Nat)
def wvA (f : Nat → Nat) : Array Value := (wvL f).toArray
theorem wvA_size (f : Nat → Nat) : (wvA f).size = 41 := by simp [wvA, wvL]
theorem wvA_get (f : Nat → Nat) {k : Nat} (h : k < 41) : (wvA f)[k]? = some (.int .i64 (f k : Nat)) := by simp [wvA, wvL, h]
theorem wvA_congr {f g : Nat → Nat} (h : ∀ k, k < 41 → f k = g k) : wvA f = wvA g := by
  have : wvL f = wvL g := List.map_congr_left fun k hk => by rw [h k (by simpa using hk)]
  rw [wvA, wvA, this]
theorem wvA_set (f : Nat → Nat) (k v : Nat) (hk : k < 41) : (wvA f).setIfInBounds k (.int .i64 (v : Nat)) = wvA (fun i => if i = k then v else f i) := by
  apply Array.ext'
  simp only [wvA, List.setIfInBounds_toArray]
  apply List.ext_getElem?
  intro i
  rw [List.getElem?_set]
  by_cases hi : i < 41
  · by_cases h : k = i
    · subst h; simp [wvL, hk]
    · simp [wvL, hi, h, Ne.symm h]
  · simp [wvL, hi]; omega
theorem wvA_one (f : Nat → Nat) : (wvA f).all (·.oneCell') = true := by
  rw [wvA]
  apply all_oneCell_toArray
  intro v hv
  simp only [wvL, List.mem_map] at hv
  obtain ⟨k, _, rfl⟩ := hv
  rfl
theorem wvA_nil : wvA (fun _ => 0) = wvA (fun _ => 0) := rfl
/-- What plus has made behind k rounds. -/
def plusK (a b : Nat → Nat) (g k j : Nat) : Nat := if j < k + g then a j + shiftF b g j else a j
theorem plusK_zero (a b : Nat → Nat) (g : Nat) : wvA (plusK a b g 0) = wvA a := wvA_congr fun j _ => by
  unfold plusK
  by_cases h : j < 0 + g
  · rw [if_pos h, shiftF, if_neg (by omega), Nat.add_zero]
  · rw [if_neg h]
theorem plusK_all (a b : Nat → Nat) (g k : Nat) (h : k + g = 41) : wvA (plusK a b g k) = wvA (fun j => a j + shiftF b g j) := wvA_congr fun j hj => by
  unfold plusK; rw [if_pos (by omega)]
theorem plusK_next (a b : Nat → Nat) (g k : Nat) (h : k + g < 41) : (wvA (plusK a b g k)).setIfInBounds (k + g) (.int .i64 ((a (k + g) + b k : Nat) : Int)) = wvA (plusK a b g (k + 1)) := by
  rw [wvA_set _ _ _ h]
  refine wvA_congr fun j hj => ?_
  unfold plusK
  by_cases h1 : j = k + g
  · subst h1
    rw [if_pos rfl, if_pos (show k + g < k + 1 + g by omega), shiftF, if_pos (show g ≤ k + g by omega), Nat.add_sub_cancel]
  · rw [if_neg h1]
    by_cases h2 : j < k + g
    · rw [if_pos h2, if_pos (show j < k + 1 + g by omega)]
    · rw [if_neg h2, if_neg (show ¬ j < k + 1 + g by omega)]

theorem awayH {w : World} {g b : Nat} (h : b ≠ g) (j : Nat) (v : Value) : (w.setCell ⟨g, j, none⟩ v).heap[b]? = w.heap[b]? := by
  simp [World.setCell, Array.getElem?_modify, Ne.symm h]
/-- Two blocks made. -/
theorem alloc2 (w : World) (o1 o2 : Obj) {w2 : World} (h : w2 = (w.alloc o1).alloc o2) :
    Below w.heap.size w w2 ∧ w2.heap[w.heap.size]? = some o1 ∧ w2.heap[w.heap.size + 1]? = some o2 ∧ w2.heap.size = w.heap.size + 2 := by
  subst h
  refine ⟨((Below.refl _ _).alloc (Nat.le_refl _) _).alloc (by simp) _, ?_, ?_, ?_⟩
  · show ((w.heap.push o1).push o2)[w.heap.size]? = _
    simp only [Array.getElem?_push, Array.size_push]
    rw [if_neg (by omega), if_pos trivial]
  · show ((w.heap.push o1).push o2)[w.heap.size + 1]? = _
    simp only [Array.getElem?_push, Array.size_push]
    rw [if_pos trivial]
  · show ((w.heap.push o1).push o2).size = _
    simp
/-- Three blocks made. -/
theorem alloc3 (w : World) (o1 o2 o3 : Obj) {w3 : World} (h : w3 = ((w.alloc o1).alloc o2).alloc o3) :
    Below w.heap.size w w3 ∧ w3.heap[w.heap.size]? = some o1 ∧ w3.heap[w.heap.size + 1]? = some o2 ∧ w3.heap[w.heap.size + 2]? = some o3 ∧ w3.heap.size = w.heap.size + 3 := by
  subst h
  refine ⟨(((Below.refl _ _).alloc (Nat.le_refl _) _).alloc (by simp) _).alloc (by simp; omega) _, ?_, ?_, ?_, ?_⟩
  · show (((w.heap.push o1).push o2).push o3)[w.heap.size]? = _
    simp only [Array.getElem?_push, Array.size_push]
    rw [if_neg (by omega), if_neg (by omega), if_pos trivial]
  · show (((w.heap.push o1).push o2).push o3)[w.heap.size + 1]? = _
    simp only [Array.getElem?_push, Array.size_push]
    rw [if_neg (by omega), if_pos trivial]
  · show (((w.heap.push o1).push o2).push o3)[w.heap.size + 2]? = _
    simp only [Array.getElem?_push, Array.size_push]
    rw [if_pos trivial]
  · show (((w.heap.push o1).push o2).push o3).size = _
    simp

end Go.Proofs.Ythlbplmghjaeoae
