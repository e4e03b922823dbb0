/- Plain lemmas on texts cut at a byte, and on what the model and the program call a board. -/
import Derived.Test.YthlbplmghjaeoaaDoorGS2
namespace Go.Proofs.YthlbplmghjaeoaaDoor
open Go.RowKit

theorem splitGo_flatten (b : UInt8) : ∀ (l cur : List UInt8), (splitGo b cur l).flatten = cur ++ l.filter (· != b)
  | [], cur => by simp [splitGo]
  | c :: r, cur => by
    unfold splitGo
    by_cases h : c = b
    · rw [if_pos h, List.flatten_cons, splitGo_flatten b r []]; simp [h]
    · rw [if_neg h, splitGo_flatten b r]; simp [h]
theorem splitB_flatten (l : List UInt8) : (splitB 47 l).flatten = cellsM l := by
  rw [splitB, splitGo_flatten]; rfl
theorem splitGo_sum (b : UInt8) : ∀ (l cur : List UInt8), (splitGo b cur l).flatten.length + (splitGo b cur l).length = cur.length + l.length + 1
  | [], cur => by simp [splitGo]
  | c :: r, cur => by
    unfold splitGo
    by_cases h : c = b
    · have := splitGo_sum b r []
      rw [if_pos h, List.flatten_cons]; simp only [List.length_append, List.length_cons, List.length_nil] at *; omega
    · have := splitGo_sum b r (cur ++ [c])
      rw [if_neg h]; simp only [List.length_append, List.length_cons, List.length_nil] at *; omega
theorem splitB_sum (l : List UInt8) : (splitB 47 l).flatten.length + (splitB 47 l).length = l.length + 1 := by
  have := splitGo_sum 47 l []; simpa [splitB] using this

/-- A row's signs as the program asks for them. -/
def rowSign (c : UInt8) : Bool := c == 46 || c == 42
def rowSigns (r : List UInt8) : Bool := r.all rowSign
theorem okSigns_all : ∀ l : List UInt8, okSigns l = l.all okSign
  | [] => rfl
  | c :: r => by
    rw [okSigns, okSigns_all r]
    by_cases h : okSign c = true
    · rw [if_pos h, List.all_cons, h]; rfl
    · rw [if_neg h, List.all_cons]; simp at h; simp [h]
theorem splitGo_signs : ∀ (l cur : List UInt8), (splitGo 47 cur l).all rowSigns = (rowSigns cur && l.all okSign)
  | [], cur => by simp [splitGo]
  | c :: r, cur => by
    unfold splitGo
    by_cases h : c = 47
    · rw [if_pos h, List.all_cons, splitGo_signs r []]; simp [h, okSign, rowSigns]
    · rw [if_neg h, splitGo_signs r, List.all_cons]
      have : okSign c = rowSign c := by simp [okSign, rowSign, h]
      rw [this, rowSigns, List.all_append]
      simp [rowSigns, Bool.and_assoc]
theorem splitB_signs (l : List UInt8) : (splitB 47 l).all rowSigns = okSigns l := by
  rw [splitB, splitGo_signs, okSigns_all]; simp [rowSigns]

theorem allLen_iff (n : Nat) : ∀ rows : List (List UInt8), allLen n rows = true ↔ ∀ r ∈ rows, r.length = n
  | [] => by simp [allLen]
  | r :: rs => by
    unfold allLen
    by_cases h : r.length = n
    · rw [if_pos h, allLen_iff n rs]; simp [h]
    · rw [if_neg h]; simp [h]
theorem allLen_sum (n : Nat) : ∀ rows : List (List UInt8), allLen n rows = true → rows.flatten.length = n * rows.length
  | [], _ => by simp
  | r :: rs, h => by
    unfold allLen at h
    by_cases h1 : r.length = n
    · rw [if_pos h1] at h
      rw [List.flatten_cons, List.length_append, h1, allLen_sum n rs h, List.length_cons, Nat.mul_add]; omega
    · rw [if_neg h1] at h; simp at h

/-- The program's rounds over the rows: each of the width, each of the two signs. -/
def rowsOK (n : Nat) : List (List UInt8) → Bool
  | [] => true
  | r :: rs => if r.length = n then (if rowSigns r = true then rowsOK n rs else false) else false
theorem rowsOK_eq (n : Nat) : ∀ rows : List (List UInt8), rowsOK n rows = (allLen n rows && rows.all rowSigns)
  | [] => rfl
  | r :: rs => by
    unfold rowsOK allLen
    by_cases h : r.length = n
    · rw [if_pos h, if_pos h, rowsOK_eq n rs, List.all_cons]
      by_cases h2 : rowSigns r = true
      · rw [if_pos h2, h2]; simp
      · rw [if_neg h2]; simp at h2; simp [h2]
    · rw [if_neg h, if_neg h]; rfl
def sizeOK (w h : Nat) : Bool := decide (1 ≤ w) && decide (w ≤ 8) && decide (1 ≤ h) && decide (h ≤ 8)
/-- Whether the program reads a text as a board. -/
def readM (l : List UInt8) : Bool :=
  if l.length ≤ 71 then (if sizeOK (headLen (splitB 47 l)) (splitB 47 l).length = true then rowsOK (headLen (splitB 47 l)) (splitB 47 l) else false) else false

theorem good_read (l : List UInt8) : readM l = boGoodM l := by
  have hpos := splitB_pos 47 l
  have hsum := splitB_sum l
  have hsig := splitB_signs l
  unfold readM boGoodM boSizeM szOf
  generalize splitB 47 l = rows at *
  rw [rowsOK_eq, hsig]
  by_cases hall : allLen (headLen rows) rows = true
  · have hfl := allLen_sum _ _ hall
    by_cases hs : 1 ≤ headLen rows ∧ headLen rows ≤ 8 ∧ rows.length ≤ 8
    · obtain ⟨h1, h2, h3⟩ := hs
      have hm : headLen rows * rows.length ≤ 8 * 8 := Nat.mul_le_mul h2 h3
      have h71 : l.length ≤ 71 := by omega
      have h72 : l.length ≤ 72 := by omega
      have hso : sizeOK (headLen rows) rows.length = true := by simp [sizeOK]; omega
      have h0 : ¬ headLen rows = 0 := by omega
      simp only [h71, h72, hso, hall, h1, h2, h3, h0, and_self, if_true, if_false, Bool.true_and]
    · have hso : ¬ sizeOK (headLen rows) rows.length = true := by simp [sizeOK]; omega
      have hc : ¬ (allLen (headLen rows) rows = true ∧ rows.length ≤ 8 ∧ 1 ≤ headLen rows ∧ headLen rows ≤ 8) := fun h => hs ⟨h.2.2.1, h.2.2.2, h.2.1⟩
      simp only [hso, hc]
      simp
  · have hc : ¬ (allLen (headLen rows) rows = true ∧ rows.length ≤ 8 ∧ 1 ≤ headLen rows ∧ headLen rows ≤ 8) := fun h => hall h.1
    simp only [hc]
    simp at hall
    simp [hall]

theorem readM_facts {l : List UInt8} (h : boGoodM l = true) :
    allLen (headLen (splitB 47 l)) (splitB 47 l) = true ∧ 1 ≤ headLen (splitB 47 l) ∧ headLen (splitB 47 l) ≤ 8 ∧ (splitB 47 l).length ≤ 8 ∧ 1 ≤ (splitB 47 l).length
      ∧ boSizeM l = (headLen (splitB 47 l), (splitB 47 l).length) ∧ (cellsM l).length = headLen (splitB 47 l) * (splitB 47 l).length ∧ (splitB 47 l).all rowSigns = true := by
  have hpos := splitB_pos 47 l
  have hfl := splitB_flatten l
  have hsg := splitB_signs l
  unfold boGoodM at h
  have h72 : l.length ≤ 72 := by
    by_cases q : l.length ≤ 72
    · exact q
    · simp [q] at h
  rw [if_pos h72] at h
  by_cases h0 : (boSizeM l).1 = 0
  · simp [h0] at h
  · rw [if_neg h0] at h
    unfold boSizeM szOf at h0 ⊢
    by_cases hc : allLen (headLen (splitB 47 l)) (splitB 47 l) = true ∧ (splitB 47 l).length ≤ 8 ∧ 1 ≤ headLen (splitB 47 l) ∧ headLen (splitB 47 l) ≤ 8
    · rw [if_pos hc]
      obtain ⟨c1, c2, c3, c4⟩ := hc
      exact ⟨c1, c3, c4, c2, hpos, rfl, by rw [← hfl, allLen_sum _ _ c1], by rw [hsg]; exact h⟩
    · rw [if_neg hc] at h0; simp at h0
/-- Rows of one width, both sizes 1..8, all signs of which hold: what the program reads as a grid. -/
def gridM (p : UInt8 → Bool) (l : List UInt8) : Bool :=
  if l.length ≤ 71 then (if sizeOK (headLen (splitB 47 l)) (splitB 47 l).length = true then (if allLen (headLen (splitB 47 l)) (splitB 47 l) = true then (cellsM l).all p else false) else false) else false
theorem all_rows (p : UInt8 → Bool) : ∀ rows : List (List UInt8), rows.all (fun r => r.all p) = rows.flatten.all p
  | [] => rfl
  | r :: rs => by rw [List.all_cons, List.flatten_cons, List.all_append, all_rows p rs]
theorem grid_good (l : List UInt8) : gridM rowSign l = boGoodM l := by
  rw [← good_read, gridM, readM, rowsOK_eq]
  have e : (splitB 47 l).all rowSigns = (cellsM l).all rowSign := by rw [← splitB_flatten, ← all_rows]; rfl
  rw [e]
  by_cases h1 : l.length ≤ 71
  · rw [if_pos h1, if_pos h1]
    by_cases h2 : sizeOK (headLen (splitB 47 l)) (splitB 47 l).length = true
    · rw [if_pos h2, if_pos h2]
      by_cases h3 : allLen (headLen (splitB 47 l)) (splitB 47 l) = true
      · rw [if_pos h3, h3, Bool.true_and]
      · rw [if_neg h3]; simp at h3; rw [h3]; rfl
    · rw [if_neg h2, if_neg h2]
  · rw [if_neg h1, if_neg h1]
theorem grid_facts {p : UInt8 → Bool} {l : List UInt8} (h : gridM p l = true) :
    l.length ≤ 71 ∧ allLen (headLen (splitB 47 l)) (splitB 47 l) = true ∧ 1 ≤ headLen (splitB 47 l) ∧ headLen (splitB 47 l) ≤ 8 ∧ (splitB 47 l).length ≤ 8 ∧ 1 ≤ (splitB 47 l).length
      ∧ (cellsM l).length = headLen (splitB 47 l) * (splitB 47 l).length ∧ (cellsM l).all p = true := by
  unfold gridM at h
  by_cases h1 : l.length ≤ 71
  · rw [if_pos h1] at h
    by_cases h2 : sizeOK (headLen (splitB 47 l)) (splitB 47 l).length = true
    · rw [if_pos h2] at h
      by_cases h3 : allLen (headLen (splitB 47 l)) (splitB 47 l) = true
      · rw [if_pos h3] at h
        simp [sizeOK] at h2
        exact ⟨h1, h3, by omega, by omega, by omega, by omega, by rw [← splitB_flatten, allLen_sum _ _ h3], h⟩
      · rw [if_neg h3] at h; cases h
    · rw [if_neg h2] at h; cases h
  · rw [if_neg h1] at h; cases h
/-- The size and the cells of the grid that is read: none if there is none. -/
def grW (p : UInt8 → Bool) (l : List UInt8) : Nat := if gridM p l = true then headLen (splitB 47 l) else 0
def grH (p : UInt8 → Bool) (l : List UInt8) : Nat := if gridM p l = true then (splitB 47 l).length else 0
def grC (p : UInt8 → Bool) (l : List UInt8) : List UInt8 := if gridM p l = true then cellsM l else []
theorem grC_le (p : UInt8 → Bool) (l : List UInt8) : (grC p l).length ≤ 64 := by
  unfold grC
  by_cases h : gridM p l = true
  · obtain ⟨_, _, _, f3, f4, _, f7, _⟩ := grid_facts h
    rw [if_pos h, f7]
    exact Nat.mul_le_mul f3 f4
  · rw [if_neg h]; simp
theorem grC_len (p : UInt8 → Bool) (l : List UInt8) : (grC p l).length = grW p l * grH p l := by
  unfold grC grW grH
  by_cases h : gridM p l = true
  · obtain ⟨_, _, _, _, _, _, f7, _⟩ := grid_facts h
    rw [if_pos h, if_pos h, if_pos h, f7]
  · rw [if_neg h, if_neg h]; simp
theorem grSize (p : UInt8 → Bool) (l : List UInt8) : (grW p l = 0 ∧ grH p l = 0) ∨ ((1 ≤ grW p l ∧ grW p l ≤ 8) ∧ (1 ≤ grH p l ∧ grH p l ≤ 8)) := by
  unfold grW grH
  by_cases h : gridM p l = true
  · obtain ⟨_, _, f1, f2, f3, f4, _, _⟩ := grid_facts h
    rw [if_pos h, if_pos h]; exact .inr ⟨⟨f1, f2⟩, ⟨f4, f3⟩⟩
  · rw [if_neg h, if_neg h]; exact .inl ⟨rfl, rfl⟩
theorem grW_pos (p : UInt8 → Bool) (l : List UInt8) : 0 < (grC p l).length → 1 ≤ grW p l := by
  rw [grC_len]
  rcases grSize p l with h | h
  · rw [h.1, h.2]; simp
  · intro _; exact h.1.1
end Go.Proofs.YthlbplmghjaeoaaDoor
