/- YC, YD, laid as one text. -/
import Derived.Test.YtajabfegeeepeabGYB
import Derived.Outline

/- Opening: the zeros of a board, by the model. -/
namespace Go.Proofs.Ytajabfegeeepeab
open Go.RowKit

end Go.Proofs.Ytajabfegeeepeab

/- Opening: all openings and their first zeros, by the model. -/
namespace Go.Proofs.Ytajabfegeeepeab
open Go.RowKit

/-- The first zero of each opening: op tells what a click opens, seen what was opened before. -/
def fzGo (op : Nat → List Nat) : List Nat → List Nat → List Nat
  | [], _ => []
  | z :: r, seen => if z ∈ seen then fzGo op r seen else z :: fzGo op r (seen ++ op z)
theorem fzGo_congr (op : Nat → List Nat) : ∀ (r s s' : List Nat), (∀ x, x ∈ s ↔ x ∈ s') → fzGo op r s = fzGo op r s'
  | [], _, _, _ => rfl
  | z :: r, s, s', h => by
    unfold fzGo
    by_cases hz : z ∈ s
    · rw [if_pos hz, if_pos ((h z).1 hz)]; exact fzGo_congr op r s s' h
    · rw [if_neg hz, if_neg (fun e => hz ((h z).2 e))]
      rw [fzGo_congr op r (s ++ op z) (s' ++ op z) (fun x => by rw [List.mem_append, List.mem_append, h x])]
theorem fzGo_mem (op : Nat → List Nat) : ∀ (r s : List Nat), ∀ x ∈ fzGo op r s, x ∈ r
  | [], _, x, h => by cases h
  | z :: r, s, x, h => by
    unfold fzGo at h
    split at h
    · exact List.mem_cons_of_mem _ (fzGo_mem op r s x h)
    · rcases List.mem_cons.1 h with rfl | h
      · exact List.mem_cons_self
      · exact List.mem_cons_of_mem _ (fzGo_mem op r _ x h)
theorem fzGo_len (op : Nat → List Nat) : ∀ (r s : List Nat), (fzGo op r s).length ≤ r.length
  | [], _ => by simp [fzGo]
  | z :: r, s => by
    unfold fzGo
    split
    · have := fzGo_len op r s; simp; omega
    · have := fzGo_len op r (s ++ op z); simp; omega
theorem zGo_lt (cells : List UInt8) (W : Nat) (s : UInt8) : ∀ (m k : Nat), ∀ x ∈ zGo cells W s k m, k ≤ x ∧ x < k + m
  | 0, _, x, h => by simp [zGo] at h
  | m + 1, k, x, h => by
    unfold zGo at h
    split at h
    · rcases List.mem_cons.1 h with rfl | h
      · omega
      · have := zGo_lt cells W s m (k + 1) x h; omega
    · have := zGo_lt cells W s m (k + 1) x h; omega
/-- The zeros of a board, the first zeros of its openings, and the openings. -/
def zerosM (cells : List UInt8) (W : Nat) : List Nat := zGo cells W 46 0 cells.length
def firstsM (cells : List UInt8) (W : Nat) : List Nat := fzGo (opM cells W) (zerosM cells W) []
def openingsM (cells : List UInt8) (W : Nat) : List (List Nat) := (firstsM cells W).map (opM cells W)
theorem zerosM_lt (cells : List UInt8) (W x : Nat) (h : x ∈ zerosM cells W) : x < cells.length := by
  have := zGo_lt cells W 46 _ _ x h; omega
theorem zerosM_le (cells : List UInt8) (W : Nat) : (zerosM cells W).length ≤ cells.length := zGo_le _ _ _ _ _
theorem firstsM_lt (cells : List UInt8) (W x : Nat) (h : x ∈ firstsM cells W) : x < cells.length := zerosM_lt cells W x (fzGo_mem _ _ _ x h)
theorem firstsM_le (cells : List UInt8) (W : Nat) : (firstsM cells W).length ≤ cells.length := Nat.le_trans (fzGo_len _ _ _) (zerosM_le _ _)

theorem elemRow : Elem Try.prog 25 39 (.slice none 0 0) 24 := ⟨Try.underlying25, info_parts (by kernel_rfl), rfl⟩
theorem perm5 (a b c d e : Rw) (T : List Rw) : (a :: b :: c :: d :: e :: T).Perm (c :: b :: a :: e :: (T ++ [d])) := by
  refine List.Perm.trans (l₂ := c :: b :: a :: d :: e :: T) ?_ ?_
  · exact (List.Perm.swap b a _).trans (((List.Perm.swap c a _).cons b).trans (List.Perm.swap c b _))
  · exact ((((List.perm_append_singleton d (e :: T)).symm).cons a).cons b).cons c

end Go.Proofs.Ytajabfegeeepeab
