/- Two boards beside each other: the rows, and whether they are a board. -/
import Derived.Test.YtndmkbkmfonefabDoorT2
import Derived.Test.YtndmkbkmfonefabDoorN6
namespace Go.Proofs.YtndmkbkmfonefabDoor
open Go.RowKit

theorem splitGo_in : ∀ (x cur r : List UInt8), (∀ c ∈ x, c ≠ 47) → splitGo 47 cur (x ++ r) = splitGo 47 (cur ++ x) r
  | [], cur, r, _ => by simp
  | c :: x, cur, r, h => by
    rw [List.cons_append, splitGo, if_neg (h c List.mem_cons_self), splitGo_in x _ r (fun d hd => h d (List.mem_cons_of_mem _ hd))]
    simp
theorem splitGo_tail : ∀ (rows : List (List UInt8)) (cur : List UInt8), (∀ r ∈ rows, ∀ c ∈ r, c ≠ 47) → splitGo 47 cur (Lib.joinTail [47] rows) = cur :: rows
  | [], cur, _ => by simp [Lib.joinTail, splitGo]
  | r :: rows, cur, h => by
    have h1 : Lib.joinTail [47] (r :: rows) = 47 :: (r ++ Lib.joinTail [47] rows) := by simp [Lib.joinTail]
    rw [h1, splitGo, if_pos rfl, splitGo_in r [] _ (h r List.mem_cons_self), List.nil_append, splitGo_tail rows r (fun x hx => h x (List.mem_cons_of_mem _ hx))]
theorem splitB_join (rows : List (List UInt8)) (hne : rows ≠ []) (h : ∀ r ∈ rows, ∀ c ∈ r, c ≠ 47) : splitB 47 (Lib.join rows [47]) = rows := by
  cases rows with
  | nil => exact absurd rfl hne
  | cons r rows =>
    rw [Lib.join_cons, splitB, splitGo_in r [] _ (h r List.mem_cons_self), List.nil_append, splitGo_tail rows r (fun x hx => h x (List.mem_cons_of_mem _ hx))]
theorem rowSigns_mem {r : List UInt8} (h : rowSigns r = true) : ∀ c ∈ r, c = 46 ∨ c = 42 := by
  intro c hc
  have := List.all_eq_true.1 h c hc
  simpa [rowSign] using this
theorem headLen_all (W : Nat) (rows : List (List UInt8)) (hne : rows ≠ []) (h : ∀ r ∈ rows, r.length = W) : headLen rows = W := by
  cases rows with
  | nil => exact absurd rfl hne
  | cons r rows => exact h r List.mem_cons_self
/-- Rows of one width and of the two signs, joined: a board if the size is right. -/
theorem good_join (W : Nat) (rows : List (List UInt8)) (hne : rows ≠ []) (hl : ∀ r ∈ rows, r.length = W) (hs : ∀ r ∈ rows, rowSigns r = true) : boGoodM (Lib.join rows [47]) = sizeOK W rows.length := by
  have hsp := splitB_join rows hne (fun r hr c hc => by
    rcases rowSigns_mem (hs r hr) c hc with rfl | rfl <;> decide)
  have hh := headLen_all W rows hne hl
  have hok : rowsOK W rows = true := by
    rw [rowsOK_eq, (allLen_iff W rows).2 hl, Bool.true_and]
    exact List.all_eq_true.2 hs
  have hlen : 1 ≤ W → W ≤ 8 → rows.length ≤ 8 → (Lib.join rows [47]).length ≤ 71 := by
    intro _ h1 h2
    have h3 := lens_le W rows (fun r hr => Nat.le_of_eq (hl r hr))
    have h4 : rows.length * W ≤ 8 * 8 := Nat.mul_le_mul h2 h1
    cases rows with
    | nil => exact absurd rfl hne
    | cons r q =>
      rw [Lib.join_length]
      simp at h2 h3 h4 ⊢
      omega
  rw [← good_read, readM, hsp, hh]
  by_cases hz : sizeOK W rows.length = true
  · have h1 : 1 ≤ W ∧ W ≤ 8 ∧ 1 ≤ rows.length ∧ rows.length ≤ 8 := by simpa [sizeOK, and_assoc] using hz
    rw [if_pos (hlen h1.1 h1.2.1 h1.2.2.2), if_pos hz, hok, hz]
  · rw [if_neg hz]
    simp at hz
    rw [hz]
    split <;> rfl
theorem rowsM_flat (W : Nat) : ∀ rows : List (List UInt8), (∀ r ∈ rows, r.length = W) → rowsM rows.flatten W rows.length = rows
  | [], _ => rfl
  | r :: rows, h => by
    have hr : r.length = W := h r List.mem_cons_self
    subst hr
    rw [List.flatten_cons, List.length_cons, rowsM, List.take_left, List.drop_left, rowsM_flat _ rows (fun x hx => h x (List.mem_cons_of_mem _ hx))]
theorem Brd.rows {l : List UInt8} {W H : Nat} {cells : List UInt8} (h : Brd l W H cells) : splitB 47 l = rowsM cells W H ∧ (∀ r ∈ rowsM cells W H, r.length = W) ∧ (∀ r ∈ rowsM cells W H, rowSigns r = true) := by
  obtain ⟨f1, f2, f3, f4, f5, f6, f7, f8⟩ := readM_facts h.good
  have hz := h.size
  rw [f6] at hz
  simp only [Prod.mk.injEq] at hz
  obtain ⟨z1, z2⟩ := hz
  rw [z1] at f1
  have e : splitB 47 l = rowsM cells W H := by
    have h2 := rowsM_flat W (splitB 47 l) ((allLen_iff _ _).1 f1)
    rw [splitB_flatten, h.cs, z2] at h2
    exact h2.symm
  refine ⟨e, ?_, ?_⟩
  · rw [← e]; exact (allLen_iff _ _).1 f1
  · rw [← e]; exact List.all_eq_true.1 f8

/-- The rows of two grids, one beside the other. -/
def besR (a b : List (List UInt8)) : List (List UInt8) := List.zipWith (· ++ ·) a b
theorem besR_mem {a b : List (List UInt8)} {Wa Wb : Nat} (h1 : ∀ r ∈ a, r.length = Wa) (h2 : ∀ r ∈ b, r.length = Wb) (s1 : ∀ r ∈ a, rowSigns r = true) (s2 : ∀ r ∈ b, rowSigns r = true) :
    (∀ r ∈ besR a b, r.length = Wa + Wb) ∧ (∀ r ∈ besR a b, rowSigns r = true) := by
  have key : ∀ r ∈ besR a b, ∃ x ∈ a, ∃ y ∈ b, r = x ++ y := by
    intro r hr
    obtain ⟨i, hi, rfl⟩ := List.getElem_of_mem hr
    simp only [besR, List.length_zipWith] at hi
    refine ⟨a[i], List.getElem_mem _, b[i], List.getElem_mem _, ?_⟩
    simp [besR]
  constructor
  · intro r hr
    obtain ⟨x, hx, y, hy, rfl⟩ := key r hr
    rw [List.length_append, h1 x hx, h2 y hy]
  · intro r hr
    obtain ⟨x, hx, y, hy, rfl⟩ := key r hr
    have e1 := s1 x hx
    have e2 := s2 y hy
    unfold rowSigns at e1 e2 ⊢
    rw [List.all_append, e1, e2]; rfl

/-- Whether two texts are boards that fit beside each other; and the board that they make. -/
def besOK (l r : List UInt8) : Bool := boGoodM l && boGoodM r && decide (gH l = gH r) && decide (gW l + gW r ≤ 8)
def besM (l r : List UInt8) : List UInt8 := if besOK l r = true then Lib.join (besR (splitB 47 l) (splitB 47 r)) [47] else []
theorem bes_no {l r : List UInt8} (h : ¬ (boGoodM l = true ∧ boGoodM r = true ∧ gH l = gH r ∧ gW l + gW r ≤ 8)) : besOK l r = false ∧ besM l r = [] := by
  have e : besOK l r = false := by
    rw [← Bool.not_eq_true]
    intro q
    exact h (by simpa [besOK, and_assoc] using q)
  exact ⟨e, by rw [besM, e]; rfl⟩
theorem bes_yes {l r : List UInt8} (h1 : boGoodM l = true) (h2 : boGoodM r = true) (h3 : gH l = gH r) (h4 : gW l + gW r ≤ 8) : besOK l r = true ∧ besM l r = Lib.join (besR (splitB 47 l) (splitB 47 r)) [47] := by
  have e : besOK l r = true := by simp [besOK, h1, h2, h3, h4]
  exact ⟨e, by rw [besM, if_pos e]⟩

/-- What is still to be joined at row k. -/
def jnGo (k : Nat) (rows : List (List UInt8)) : List UInt8 := if k = 0 then Lib.join rows [47] else Lib.joinTail [47] rows
theorem jnGo_step (k : Nat) (x : List UInt8) (r : List (List UInt8)) : jnGo k (x :: r) = (if 0 < k then [47] else []) ++ x ++ jnGo (k + 1) r := by
  unfold jnGo
  rw [if_neg (Nat.succ_ne_zero k)]
  by_cases h : k = 0
  · subst h; rw [if_pos rfl, if_neg (by omega), Lib.join_cons]; simp
  · rw [if_neg h, if_pos (by omega)]; simp [Lib.joinTail]
theorem jnGo_nil (k : Nat) : jnGo k [] = [] := by
  unfold jnGo; split <;> simp [Lib.joinTail, Lib.join_nil]
end Go.Proofs.YtndmkbkmfonefabDoor
