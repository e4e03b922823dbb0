/- Counts by the model: the fewest mines such that each free cell has one beside it. -/
import Derived.Test.YthlbplmghjaeoacJ8
import Derived.Outline
namespace Go.Proofs.Ythlbplmghjaeoac
open Go.RowKit

/-- Has a cell a mine, or one beside it? -/
def nfB (cells : List UInt8) (W k : Nat) : Bool := decide (cells.getD k 0 = 42) || decide (0 < numM cells W k)
def fitK (cells : List UInt8) (W k : Nat) : Bool := (List.range k).all (nfB cells W)
theorem fitK_step (cells : List UInt8) (W k : Nat) (hk : k < cells.length) : fitK cells W (k + 1) = (fitK cells W k && (decide (cells[k] = 42) || decide (0 < numM cells W k))) := by
  have hgd : cells.getD k 0 = cells[k] := by simp [List.getD, hk]
  rw [fitK, List.range_succ, List.all_append, ← fitK]
  simp [nfB, hk]
/-- The first board with the fewest mines. -/
def nrT (W : Nat) (s : List UInt8 × Int) (c : List UInt8) : List UInt8 × Int := if ((places 42 c).length : Int) < s.2 ∧ fitK c W c.length = true then (c, ((places 42 c).length : Int)) else s
def nrL (W n : Nat) (L : List (List UInt8)) : List UInt8 × Int := L.foldl (nrT W) ([], (n : Int) + 1)
theorem nrL_snoc (W n : Nat) (L : List (List UInt8)) (k : Nat) (hk : k < L.length) : nrL W n (L.take (k + 1)) = nrT W (nrL W n (L.take k)) L[k] := by
  rw [List.take_succ_eq_append_getElem hk, nrL, List.foldl_append, ← nrL]; rfl
theorem places_full (b : UInt8) : ∀ (L : List UInt8) (i : Nat), (∀ c ∈ L, c = b) → (placesGo b i L).length = L.length
  | [], _, _ => rfl
  | c :: r, i, h => by
    rw [placesGo, if_pos (h c List.mem_cons_self), List.length_cons, List.length_cons, places_full b r (i + 1) fun x hx => h x (List.mem_cons_of_mem _ hx)]
theorem ctB_zero (n : Nat) : ∀ c ∈ ctB n 0, c = 42 := by
  intro c hc
  obtain ⟨i, _, rfl⟩ := List.mem_map.1 hc
  rw [if_neg (by simp)]
theorem allM_first (n : Nat) (h : 0 < (allM n (-1)).length) : (allM n (-1))[0] = ctB n 0 := by
  have e : allM n (-1) = (List.range (2 ^ n)).map (ctB n) := by
    rw [allM, allK]
    exact List.filter_eq_self.2 fun c _ => by simp [mnB]
  have e2 : (allM n (-1))[0]? = some (ctB n 0) := by
    rw [e, List.getElem?_map, List.getElem?_range (by exact Nat.two_pow_pos n)]; rfl
  rw [List.getElem?_eq_getElem h] at e2
  exact Option.some.inj e2
theorem nrL_len (W n : Nat) : ∀ k, 1 ≤ k → k ≤ (allM n (-1)).length → (nrL W n ((allM n (-1)).take k)).1.length = n
  | 1, _, h => by
    rw [nrL_snoc W n _ 0 (by omega), allM_first n (by omega)]
    have h1 : (places 42 (ctB n 0)).length = n := by rw [places, places_full 42 _ 0 (ctB_zero n), ctB_length]
    have h2 : fitK (ctB n 0) W (ctB n 0).length = true := by
      rw [fitK, List.all_eq_true]
      intro i hi
      rw [List.mem_range] at hi
      have hgd : (ctB n 0).getD i 0 = 42 := by
        rw [List.getD, List.getElem?_eq_getElem hi]
        exact ctB_zero n _ (List.getElem_mem hi)
      rw [nfB, hgd]; rfl
    rw [nrT, if_pos ⟨by rw [h1]; simp [nrL]; omega, h2⟩]
    exact ctB_length n 0
  | k + 2, _, h => by
    rw [nrL_snoc W n _ (k + 1) (by omega), nrT]
    split
    · exact allM_len (List.getElem_mem _)
    · exact nrL_len W n (k + 1) (by omega) (by omega)
theorem nrL_least (W n : Nat) : ∀ k, k ≤ (allM n (-1)).length → 0 ≤ (nrL W n ((allM n (-1)).take k)).2 ∧ (nrL W n ((allM n (-1)).take k)).2 ≤ n + 1
  | 0, _ => by simp [nrL]; omega
  | k + 1, h => by
    have ih := nrL_least W n k (by omega)
    rw [nrL_snoc W n _ k (by omega), nrT]
    split
    · have h1 := placesGo_le 42 (allM n (-1))[k] 0
      have h2 := allM_len (List.getElem_mem (l := allM n (-1)) (n := k) (by omega))
      rw [h2] at h1
      rw [places]
      constructor
      · exact Int.natCast_nonneg _
      · omega
    · exact ih
def nearT (W H : Nat) : List UInt8 := (nrL W (W * H) (allM (W * H) (-1))).1
theorem nearT_len (W H : Nat) : (nearT W H).length = W * H := by
  have h := nrL_len W (W * H) _ (allM_pos (W * H)) (Nat.le_refl _)
  rw [List.take_length] at h
  exact h

end Go.Proofs.Ythlbplmghjaeoac
