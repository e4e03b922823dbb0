/- Texts of rows: a text that is joined of rows is read as the grid that it was made of (plain lemmas). -/
import Derived.Test.YthlbplmghjaeoaaGT1
import Derived.Outline
namespace Go.Proofs.Ythlbplmghjaeoaa
open Go.RowKit

theorem splitGo_inn : ∀ (x cur r : List UInt8), (∀ c ∈ x, c ≠ 47) → splitGo 47 cur (x ++ r) = splitGo 47 (cur ++ x) r
  | [], cur, r, _ => by simp
  | c :: x, cur, r, h => by
    rw [List.cons_append, splitGo, if_neg (h c List.mem_cons_self), splitGo_inn x _ r (fun d hd => h d (List.mem_cons_of_mem _ hd))]
    simp
theorem splitGo_tl : ∀ (rows : List (List UInt8)) (cur : List UInt8), (∀ r ∈ rows, ∀ c ∈ r, c ≠ 47) → splitGo 47 cur (Lib.joinTail [47] rows) = cur :: rows
  | [], cur, _ => by simp [Lib.joinTail, splitGo]
  | r :: rows, cur, h => by
    have h1 : Lib.joinTail [47] (r :: rows) = 47 :: (r ++ Lib.joinTail [47] rows) := by simp [Lib.joinTail]
    rw [h1, splitGo, if_pos rfl, splitGo_inn r [] _ (h r List.mem_cons_self), List.nil_append, splitGo_tl rows r (fun x hx => h x (List.mem_cons_of_mem _ hx))]
theorem splitB_joined (rows : List (List UInt8)) (hne : rows ≠ []) (h : ∀ r ∈ rows, ∀ c ∈ r, c ≠ 47) : splitB 47 (Lib.join rows [47]) = rows := by
  cases rows with
  | nil => exact absurd rfl hne
  | cons r rows =>
    rw [Lib.join_cons, splitB, splitGo_inn r [] _ (h r List.mem_cons_self), List.nil_append, splitGo_tl rows r (fun x hx => h x (List.mem_cons_of_mem _ hx))]
theorem rowsM_in (W : Nat) : ∀ (H : Nat) (cells : List UInt8), ∀ r ∈ rowsM cells W H, ∀ c ∈ r, c ∈ cells
  | 0, _, r, h, _, _ => by simp [rowsM] at h
  | H + 1, cells, r, h, c, hc => by
    rw [rowsM] at h
    rcases List.mem_cons.1 h with rfl | h
    · exact List.mem_of_mem_take hc
    · exact List.mem_of_mem_drop (rowsM_in W H _ r h c hc)
theorem rowsM_wide (W : Nat) : ∀ (H : Nat) (cells : List UInt8), cells.length = W * H → (∀ r ∈ rowsM cells W H, r.length = W) ∧ (rowsM cells W H).flatten = cells
  | 0, cells, h => by
    have : cells = [] := by simpa using h
    subst this
    exact ⟨by simp [rowsM], rfl⟩
  | H + 1, cells, h => by
    rw [Nat.mul_succ] at h
    obtain ⟨h1, h2⟩ := rowsM_wide W H (cells.drop W) (by simp; omega)
    constructor
    · intro r hr
      rw [rowsM] at hr
      rcases List.mem_cons.1 hr with rfl | hr
      · simp; omega
      · exact h1 r hr
    · rw [rowsM, List.flatten_cons, h2, List.take_append_drop]
/-- A text of rows is read as the grid that it was made of. -/
theorem text_grid {p : UInt8 → Bool} {cells : List UInt8} {W H : Nat} (hW : 1 ≤ W ∧ W ≤ 8) (hH : 1 ≤ H ∧ H ≤ 8) (hn : cells.length = W * H) (hp : ∀ c ∈ cells, p c = true) (h47 : ∀ c ∈ cells, c ≠ 47) :
    gridM p (textM cells W H) = true ∧ cellsM (textM cells W H) = cells ∧ boSizeM (textM cells W H) = (W, H) := by
  obtain ⟨h1, h2⟩ := rowsM_wide W H cells hn
  have hne : rowsM cells W H ≠ [] := by
    intro q
    have := congrArg List.length q
    simp at this
    omega
  have hsp : splitB 47 (textM cells W H) = rowsM cells W H := splitB_joined _ hne (fun r hr c hc => h47 c (rowsM_in W H cells r hr c hc))
  have hhl : headLen (rowsM cells W H) = W := by
    cases hr : rowsM cells W H with
    | nil => exact absurd hr hne
    | cons r q => exact h1 r (by rw [hr]; exact List.mem_cons_self)
  have hal : allLen W (rowsM cells W H) = true := (allLen_iff _ _).2 h1
  have hc : cellsM (textM cells W H) = cells := by rw [← splitB_flatten, hsp, h2]
  have hlen : (textM cells W H).length ≤ 71 := by
    have h3 := splitB_sum (textM cells W H)
    rw [hsp, h2, rowsM_length] at h3
    have h4 : W * H ≤ 8 * 8 := Nat.mul_le_mul hW.2 hH.2
    omega
  have hg : gridM p (textM cells W H) = true := by
    rw [gridM, if_pos hlen, hsp, hhl, rowsM_length, if_pos (by simp [sizeOK]; omega), if_pos hal, hc]
    exact List.all_eq_true.2 hp
  exact ⟨hg, hc, by rw [size_grid hg, hsp, hhl, rowsM_length]⟩
end Go.Proofs.Ythlbplmghjaeoaa
