/- Counts by the model: the first board with the greatest sum. -/
import Derived.Test.YthlbplmghjaeoaeJ7
import Derived.Outline
namespace Go.Proofs.Ythlbplmghjaeoae
open Go.RowKit

/-- What FirstGreatest hands back. -/
def fgS (W : Nat) (s : List UInt8 × Int) (c : List UInt8) : List UInt8 × Int := if s.2 < (sumGo c W 0 c.length : Nat) then (c, ((sumGo c W 0 c.length : Nat) : Int)) else s
def fgL (W : Nat) (L : List (List UInt8)) : List UInt8 × Int := L.foldl (fgS W) ([], -1)
def fgM (w h : Int) : List UInt8 := if szB w h 12 = true then textM (fgL w.toNat (allM (w.toNat * h.toNat) (-1))).1 w.toNat h.toNat else []
theorem fgL_snoc (W : Nat) (L : List (List UInt8)) (k : Nat) (hk : k < L.length) : fgL W (L.take (k + 1)) = fgS W (fgL W (L.take k)) L[k] := by
  rw [List.take_succ_eq_append_getElem hk, fgL, List.foldl_append, ← fgL]; rfl
theorem fgL_len (W n : Nat) (L : List (List UInt8)) (hL : ∀ c ∈ L, c.length = n) : ∀ k, 1 ≤ k → k ≤ L.length → (fgL W (L.take k)).1.length = n
  | 1, _, h => by
    rw [fgL_snoc W L 0 (by omega), fgS, if_pos (by simp [fgL]; omega)]
    exact hL _ (List.getElem_mem _)
  | k + 2, _, h => by
    rw [fgL_snoc W L (k + 1) (by omega), fgS]
    split
    · exact hL _ (List.getElem_mem _)
    · exact fgL_len W n L hL (k + 1) (by omega) (by omega)
theorem fgL_most (W n : Nat) (L : List (List UInt8)) (hL : ∀ c ∈ L, c.length = n) (hn : n ≤ 12) : ∀ k, k ≤ L.length → -1 ≤ (fgL W (L.take k)).2 ∧ (fgL W (L.take k)).2 ≤ 144
  | 0, _ => by simp [fgL]
  | k + 1, h => by
    have ih := fgL_most W n L hL hn k (by omega)
    rw [fgL_snoc W L k (by omega), fgS]
    split
    · have h1 := sumGo_le L[k] W L[k].length 0
      have h2 := hL L[k] (List.getElem_mem _)
      rw [h2] at h1 ⊢
      have h3 : n * n ≤ 12 * 12 := Nat.mul_le_mul hn hn
      omega
    · exact ih
theorem allM_pos (n : Nat) : 1 ≤ (allM n (-1)).length := by
  rw [allM, allK]
  have e : ((List.range (2 ^ n)).map (ctB n)).filter (mnB (-1)) = (List.range (2 ^ n)).map (ctB n) := List.filter_eq_self.2 fun c _ => by simp [mnB]
  rw [e, List.length_map, List.length_range]
  exact Nat.one_le_two_pow

end Go.Proofs.Ythlbplmghjaeoae
