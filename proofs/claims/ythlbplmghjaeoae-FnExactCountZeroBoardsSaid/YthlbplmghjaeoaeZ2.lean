/- The board of a size and of mines: by the program. -/
import Derived.Test.YthlbplmghjaeoaeZ1
import Derived.Test.YthlbplmghjaeoaeU1
import Derived.Test.YthlbplmghjaeoaeT8
import Derived.Outline
namespace Go.Proofs.Ythlbplmghjaeoae
open Go.RowKit

/-- Cells with mines put at some of them, one after another. -/
def paintM (c : List UInt8) : List Int → List UInt8
  | [] => c
  | x :: r => paintM (c.set x.toNat 42) r
@[simp] theorem paintM_length : ∀ (xs : List Int) (c : List UInt8), (paintM c xs).length = c.length
  | [], _ => rfl
  | x :: r, c => by rw [paintM, paintM_length r, List.length_set]
theorem paintM_get : ∀ (xs : List Int) (c : List UInt8) (i : Nat) (h : i < (paintM c xs).length) (h' : i < c.length), (∀ x ∈ xs, 0 ≤ x) → (paintM c xs)[i] = if hasI xs i = true then 42 else c[i]
  | [], c, i, _, _, _ => by simp [paintM, hasI]
  | x :: r, c, i, h, h', hx => by
    have h0 := hx x List.mem_cons_self
    have ih := paintM_get r (c.set x.toNat 42) i (by simpa using h) (by simpa using h') (fun y hy => hx y (List.mem_cons_of_mem _ hy))
    simp only [paintM]
    rw [ih, List.getElem_set]
    simp only [hasI, List.any_cons]
    by_cases q : x.toNat = i
    · have e : (x == (i : Int)) = true := by simp; omega
      simp [q, e]
    · have e : (x == (i : Int)) = false := by simp; omega
      simp [q, e]
theorem ofGo_get (xs : List Int) : ∀ (m k i : Nat) (h : i < (ofGo xs k m).length), (ofGo xs k m)[i] = if hasI xs ((k + i : Nat) : Int) = true then 42 else 46
  | 0, _, _, h => by simp at h
  | m + 1, k, 0, _ => by simp [ofGo]
  | m + 1, k, i + 1, h => by
    have ih := ofGo_get xs m (k + 1) i (by simpa using h)
    simp only [ofGo, List.getElem_cons_succ]
    rw [ih, show k + 1 + i = k + (i + 1) by omega]
theorem paint_of (xs : List Int) (n : Nat) (h : ∀ x ∈ xs, 0 ≤ x) : paintM (List.replicate n 46) xs = ofGo xs 0 n := by
  apply List.ext_getElem
  · simp
  · intro i h1 h2
    rw [paintM_get xs _ i h1 (by simpa using h1) h, ofGo_get xs n 0 i h2]
    simp

/-- Is there such a board; and its text. -/
def bmOK (w h : Int) (xs : List Int) : Bool := inB w 1 8 && inB h 1 8 && risesM (w * h) (-1) xs
def bmM (w h : Int) (xs : List Int) : List UInt8 := if bmOK w h xs = true then textM (ofGo xs 0 (w.toNat * h.toNat)) w.toNat h.toNat else []
theorem bm_no {w h : Int} {xs : List Int} (q : bmOK w h xs = false) : bmM w h xs = [] := by rw [bmM, q]; rfl
theorem bm_size {w h : Int} (xs : List Int) (q : (inB w 1 8 && inB h 1 8) = false) : bmOK w h xs = false := by rw [bmOK, q]; rfl
theorem bm_nat (W H : Nat) (xs : List Int) (hW : 1 ≤ W ∧ W ≤ 8) (hH : 1 ≤ H ∧ H ≤ 8) : bmOK W H xs = risesM ((W * H : Nat) : Int) (-1) xs := by
  have e1 : inB (W : Int) 1 8 = true := by simp [inB]; omega
  have e2 : inB (H : Int) 1 8 = true := by simp [inB]; omega
  rw [bmOK, e1, e2]; simp
theorem bm_yes (W H : Nat) (xs : List Int) (q : bmOK W H xs = true) : bmM W H xs = textM (ofGo xs 0 (W * H)) W H := by
  rw [bmM, if_pos q]; rfl

set_option maxRecDepth 100000 in
theorem isSizeI_no (x y : Int) (w : World) (h : (inB x 1 8 && inB y 1 8) = false) :
    Calls Try.prog 58 #[.int .i64 x, .int .i64 y] w fun e w' => e = .returned (.bool false) ∧ w = w' := by
  have key : x < 1 ∨ (1 ≤ x ∧ 8 < x) ∨ (1 ≤ x ∧ x ≤ 8 ∧ y < 1) ∨ (1 ≤ x ∧ x ≤ 8 ∧ 1 ≤ y ∧ 8 < y) := by
    simp only [inB, Bool.and_eq_false_iff, decide_eq_false_iff_not] at h
    omega
  clear h
  rcases key with h1 | ⟨h1, h2⟩ | ⟨h1, h2, h3⟩ | ⟨h1, h2, h3, h4⟩
  all_goals
    go_enter Try.func58, Try.ntmps58
    go_wp2
    go_ret
    first
      | exact ⟨rfl, rfl⟩
      | exact ⟨by simp; omega, rfl⟩

end Go.Proofs.Ythlbplmghjaeoae
