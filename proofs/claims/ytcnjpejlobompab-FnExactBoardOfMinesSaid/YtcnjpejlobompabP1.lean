/- Plain lemmas on texts cut at a byte, and on what the model and the program call a board. -/
import Derived.Test.YtcnjpejlobompabS4
namespace Go.Proofs.Ytcnjpejlobompab
open Go.RowKit

theorem splitGo_flatten (b : UInt8) : ∀ (l cur : List UInt8), (splitGo b cur l).flatten = cur ++ l.filter (· != b)
  | [], cur => by simp [splitGo]
  | c :: r, cur => by
    unfold splitGo
    by_cases h : c = b
    · rw [if_pos h, List.flatten_cons, splitGo_flatten b r []]; simp [h]
    · rw [if_neg h, splitGo_flatten b r]; simp [h]
theorem splitB_flatten (l : List UInt8) : (splitB 47 l).flatten = cellsM l := by
  rw [splitB, splitGo_flatten]; rfl
theorem splitGo_sum (b : UInt8) : ∀ (l cur : List UInt8), (splitGo b cur l).flatten.length + (splitGo b cur l).length = cur.length + l.length + 1
  | [], cur => by simp [splitGo]
  | c :: r, cur => by
    unfold splitGo
    by_cases h : c = b
    · have := splitGo_sum b r []
      rw [if_pos h, List.flatten_cons]; simp only [List.length_append, List.length_cons, List.length_nil] at *; omega
    · have := splitGo_sum b r (cur ++ [c])
      rw [if_neg h]; simp only [List.length_append, List.length_cons, List.length_nil] at *; omega
theorem splitB_sum (l : List UInt8) : (splitB 47 l).flatten.length + (splitB 47 l).length = l.length + 1 := by
  have := splitGo_sum 47 l []; simpa [splitB] using this

/-- A row's signs as the program asks for them. -/
def rowSign (c : UInt8) : Bool := c == 46 || c == 42
def rowSigns (r : List UInt8) : Bool := r.all rowSign
theorem okSigns_all : ∀ l : List UInt8, okSigns l = l.all okSign
  | [] => rfl
  | c :: r => by
    rw [okSigns, okSigns_all r]
    by_cases h : okSign c = true
    · rw [if_pos h, List.all_cons, h]; rfl
    · rw [if_neg h, List.all_cons]; simp at h; simp [h]
theorem splitGo_signs : ∀ (l cur : List UInt8), (splitGo 47 cur l).all rowSigns = (rowSigns cur && l.all okSign)
  | [], cur => by simp [splitGo]
  | c :: r, cur => by
    unfold splitGo
    by_cases h : c = 47
    · rw [if_pos h, List.all_cons, splitGo_signs r []]; simp [h, okSign, rowSigns]
    · rw [if_neg h, splitGo_signs r, List.all_cons]
      have : okSign c = rowSign c := by simp [okSign, rowSign, h]
      rw [this, rowSigns, List.all_append]
      simp [rowSigns, Bool.and_assoc]
theorem splitB_signs (l : List UInt8) : (splitB 47 l).all rowSigns = okSigns l := by
  rw [splitB, splitGo_signs, okSigns_all]; simp [rowSigns]

theorem allLen_iff (n : Nat) : ∀ rows : List (List UInt8), allLen n rows = true ↔ ∀ r ∈ rows, r.length = n
  | [] => by simp [allLen]
  | r :: rs => by
    unfold allLen
    by_cases h : r.length = n
    · rw [if_pos h, allLen_iff n rs]; simp [h]
    · rw [if_neg h]; simp [h]
theorem allLen_sum (n : Nat) : ∀ rows : List (List UInt8), allLen n rows = true → rows.flatten.length = n * rows.length
  | [], _ => by simp
  | r :: rs, h => by
    unfold allLen at h
    by_cases h1 : r.length = n
    · rw [if_pos h1] at h
      rw [List.flatten_cons, List.length_append, h1, allLen_sum n rs h, List.length_cons, Nat.mul_add]; omega
    · rw [if_neg h1] at h; simp at h

/-- The program's rounds over the rows: each of the width, each of the two signs. -/
def rowsOK (n : Nat) : List (List UInt8) → Bool
  | [] => true
  | r :: rs => if r.length = n then (if rowSigns r = true then rowsOK n rs else false) else false
theorem rowsOK_eq (n : Nat) : ∀ rows : List (List UInt8), rowsOK n rows = (allLen n rows && rows.all rowSigns)
  | [] => rfl
  | r :: rs => by
    unfold rowsOK allLen
    by_cases h : r.length = n
    · rw [if_pos h, if_pos h, rowsOK_eq n rs, List.all_cons]
      by_cases h2 : rowSigns r = true
      · rw [if_pos h2, h2]; simp
      · rw [if_neg h2]; simp at h2; simp [h2]
    · rw [if_neg h, if_neg h]; rfl
def sizeOK (w h : Nat) : Bool := decide (1 ≤ w) && decide (w ≤ 8) && decide (1 ≤ h) && decide (h ≤ 8)
/-- Whether the program reads a text as a board. -/
def readM (l : List UInt8) : Bool :=
  if l.length ≤ 71 then (if sizeOK (headLen (splitB 47 l)) (splitB 47 l).length = true then rowsOK (headLen (splitB 47 l)) (splitB 47 l) else false) else false

theorem good_read (l : List UInt8) : readM l = boGoodM l := by
  have hpos := splitB_pos 47 l
  have hsum := splitB_sum l
  have hsig := splitB_signs l
  unfold readM boGoodM boSizeM szOf
  generalize splitB 47 l = rows at *
  rw [rowsOK_eq, hsig]
  by_cases hall : allLen (headLen rows) rows = true
  · have hfl := allLen_sum _ _ hall
    by_cases hs : 1 ≤ headLen rows ∧ headLen rows ≤ 8 ∧ rows.length ≤ 8
    · obtain ⟨h1, h2, h3⟩ := hs
      have hm : headLen rows * rows.length ≤ 8 * 8 := Nat.mul_le_mul h2 h3
      have h71 : l.length ≤ 71 := by omega
      have h72 : l.length ≤ 72 := by omega
      have hso : sizeOK (headLen rows) rows.length = true := by simp [sizeOK]; omega
      have h0 : ¬ headLen rows = 0 := by omega
      simp only [h71, h72, hso, hall, h1, h2, h3, h0, and_self, if_true, if_false, Bool.true_and]
    · have hso : ¬ sizeOK (headLen rows) rows.length = true := by simp [sizeOK]; omega
      have hc : ¬ (allLen (headLen rows) rows = true ∧ rows.length ≤ 8 ∧ 1 ≤ headLen rows ∧ headLen rows ≤ 8) := fun h => hs ⟨h.2.2.1, h.2.2.2, h.2.1⟩
      simp only [hso, hc]
      simp
  · have hc : ¬ (allLen (headLen rows) rows = true ∧ rows.length ≤ 8 ∧ 1 ≤ headLen rows ∧ headLen rows ≤ 8) := fun h => hall h.1
    simp only [hc]
    simp at hall
    simp [hall]

theorem readM_facts {l : List UInt8} (h : boGoodM l = true) :
    allLen (headLen (splitB 47 l)) (splitB 47 l) = true ∧ 1 ≤ headLen (splitB 47 l) ∧ headLen (splitB 47 l) ≤ 8 ∧ (splitB 47 l).length ≤ 8 ∧ 1 ≤ (splitB 47 l).length
      ∧ boSizeM l = (headLen (splitB 47 l), (splitB 47 l).length) ∧ (cellsM l).length = headLen (splitB 47 l) * (splitB 47 l).length ∧ (splitB 47 l).all rowSigns = true := by
  have hpos := splitB_pos 47 l
  have hfl := splitB_flatten l
  have hsg := splitB_signs l
  unfold boGoodM at h
  have h72 : l.length ≤ 72 := by
    by_cases q : l.length ≤ 72
    · exact q
    · simp [q] at h
  rw [if_pos h72] at h
  by_cases h0 : (boSizeM l).1 = 0
  · simp [h0] at h
  · rw [if_neg h0] at h
    unfold boSizeM szOf at h0 ⊢
    by_cases hc : allLen (headLen (splitB 47 l)) (splitB 47 l) = true ∧ (splitB 47 l).length ≤ 8 ∧ 1 ≤ headLen (splitB 47 l) ∧ headLen (splitB 47 l) ≤ 8
    · rw [if_pos hc]
      obtain ⟨c1, c2, c3, c4⟩ := hc
      exact ⟨c1, c3, c4, c2, hpos, rfl, by rw [← hfl, allLen_sum _ _ c1], by rw [hsg]; exact h⟩
    · rw [if_neg hc] at h0; simp at h0
end Go.Proofs.Ytcnjpejlobompab
