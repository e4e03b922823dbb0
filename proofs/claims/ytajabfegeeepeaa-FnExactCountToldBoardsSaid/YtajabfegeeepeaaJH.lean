/- Counts by the model: all sums. -/
import Derived.Test.YtajabfegeeepeaaJG
import Derived.Test.YtajabfegeeepeaaGYB
import Derived.Laws.OwnMore
import Derived.Outline
namespace Go.Proofs.Ytajabfegeeepeaa
open Go.RowKit

/-- How many boards have a sum. -/
def cntA (W : Nat) (L : List (List UInt8)) (s : Nat) : Nat := (L.filter fun c => decide (sumGo c W 0 c.length = s)).length
def cntL (W : Nat) (L : List (List UInt8)) : List Nat := (List.range 501).map (cntA W L)
@[simp] theorem cntL_length (W : Nat) (L : List (List UInt8)) : (cntL W L).length = 501 := by simp [cntL]
theorem cntL_get (W : Nat) (L : List (List UInt8)) (s : Nat) (h : s < (cntL W L).length) : (cntL W L)[s] = cntA W L s := by simp [cntL]
theorem cntA_snoc (W : Nat) (L : List (List UInt8)) (k : Nat) (hk : k < L.length) (s : Nat) : cntA W (L.take (k + 1)) s = cntA W (L.take k) s + if sumGo L[k] W 0 L[k].length = s then 1 else 0 := by
  rw [cntA, filt_snoc L hk, cntA]
  by_cases h : sumGo L[k] W 0 L[k].length = s <;> simp [h]
theorem cntL_step (W : Nat) (L : List (List UInt8)) (k : Nat) (hk : k < L.length) : (cntL W (L.take k)).set (sumGo L[k] W 0 L[k].length) (cntA W (L.take k) (sumGo L[k] W 0 L[k].length) + 1) = cntL W (L.take (k + 1)) := by
  refine List.ext_getElem (by simp) fun i h1 h2 => ?_
  rw [cntL_get, cntA_snoc W L k hk, List.getElem_set]
  split
  · rename_i h; subst h; simp
  · rw [cntL_get]; rfl
theorem cntL_nil (W : Nat) : cntL W [] = List.replicate 501 0 := by
  refine List.ext_getElem (by rw [cntL_length, List.length_replicate]) fun i h1 h2 => ?_
  rw [cntL_get, List.getElem_replicate]; rfl
theorem nats_set (L : List Nat) (i v : Nat) : (nats L).set i (.int .i64 ((v : Int) + 1)) = nats (L.set i (v + 1)) := by
  rw [nats, nats, ints, ints, List.map_map, List.map_map, List.map_set]; rfl
theorem cntA_le (W : Nat) (L : List (List UInt8)) (s : Nat) : cntA W L s ≤ L.length := List.length_filter_le _ _
/-- All sums that a board has, each with how many have it. -/
def smK (W : Nat) (L : List (List UInt8)) (k : Nat) : List (List Nat) := ((List.range k).filter fun s => decide (0 < cntA W L s)).map fun s => [s, cntA W L s]
theorem smK_snoc (W : Nat) (L : List (List UInt8)) (k : Nat) : smK W L (k + 1) = smK W L k ++ if 0 < cntA W L k then [[k, cntA W L k]] else [] := by
  rw [smK, List.range_succ, List.filter_append, List.map_append, smK]
  by_cases h : 0 < cntA W L k <;> simp [h]
theorem smK_le (W : Nat) (L : List (List UInt8)) (k : Nat) : (smK W L k).length ≤ k := by
  rw [smK, List.length_map]
  refine Nat.le_trans (List.length_filter_le _ _) ?_
  simp
def smR (W H : Nat) : List (List Nat) := smK W (allM (W * H) (-1)) 501

theorem away_setJ {w : World} {g b : Nat} (h : b ≠ g) (j : Nat) (v : Value) : (w.setCell ⟨g, j, none⟩ v).heap[b]? = w.heap[b]? := by
  simp [World.setCell, Array.getElem?_modify, Ne.symm h]
end Go.Proofs.Ytajabfegeeepeaa
