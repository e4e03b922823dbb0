/- Listed boards, sorted: the row ahead of a sort and behind it. -/
import Derived.Test.YthlbplmghjaeoaeGA
import Derived.Test.YthlbplmghjaeoaeGB
import Derived.Outline
namespace Go.Proofs.Ythlbplmghjaeoae
open Go.RowKit Go.Sort Go.Lib Go.Shelf

/-- Boards with their places. -/
def encP (p : LB × Nat) : List Value := encB p.1
theorem encP_len (p : LB × Nat) : (encP p).length = 24 := encB_len p.1
theorem own_holds {w : World} {g : Nat} {d : Array (LB × Nat)} (hb : ∃ cur t, w.heap[g]? = some (.cells cur t (0, 0))) (h : ∀ j (hj : j < d.size), w.rangeAt g (j * 24) (encB d[j].1)) : HoldsK encP 24 w g 0 d := by
  intro t ht
  rw [size_flatK] at ht
  obtain ⟨cur, ty, hh⟩ := hb
  have hj : t / 24 < d.size := by omega
  have hi : t % 24 < 24 := Nat.mod_lt _ (by decide)
  have e : t / 24 * 24 + t % 24 = t := by omega
  refine ⟨?_, frozen_of_block hh _⟩
  have hg := encB_get d[t / 24].1 (t % 24) hi
  have := h (t / 24) hj (t % 24) _ hg
  rw [e] at this
  rw [Nat.zero_add, this, get_flatK _ _ _ _ ht, getElem!_pos d (t / 24) hj]
  show _ = some (id (encB d[t / 24].1)[t % 24]!)
  rw [List.getElem!_eq_getElem?_getD, hg]; rfl
theorem sort_block {w w' : World} {g n : Nat} {cur : Array Value} {t : TypeId} {d : Array (LB × Nat)} (S : SWK encP 24 w g 0 d w') (hh : w.heap[g]? = some (.cells cur t (0, 0))) (hn : d.size = n) (hc : n * 24 ≤ cur.size) :
    ∃ cur', w'.heap[g]? = some (.cells cur' t (0, 0)) ∧ cur'.size = cur.size ∧ cur'.toList.take (n * 24) = flatB (d.toList.map (·.1)) := by
  obtain ⟨m, os, rfl⟩ := S
  have hl := block_lt hh
  refine ⟨putCells id 0 (flatK encP 24 d) cur, ?_, by simp [putCells], ?_⟩
  · show ((mapBlock (Sort.ahead w m) g (putCells id 0 (flatK encP 24 d))).heap ++ os)[g]? = _
    have h1 : (mapBlock (Sort.ahead w m) g (putCells id 0 (flatK encP 24 d))).heap = w.heap.modify g (onCells (putCells id 0 (flatK encP 24 d))) := rfl
    rw [h1, Array.getElem?_append_left (by simpa using hl), Array.getElem?_modify, if_pos rfl, hh]; rfl
  · have hdl : (d.toList.map (·.1)).length = n := by simp [hn]
    refine List.ext_getElem? fun i => ?_
    by_cases hi : i < n * 24
    · have hj : i / 24 < n := by omega
      have hr : i % 24 < 24 := Nat.mod_lt _ (by decide)
      have e : i / 24 * 24 + i % 24 = i := by omega
      have hf := flatB_get (d.toList.map (·.1)) (i / 24) (i % 24) (by rw [hdl]; exact hj) hr
      rw [e] at hf
      rw [hf, List.getElem?_take, if_pos hi, Array.getElem?_toList, putCells, Array.getElem?_mapIdx, getElem?_pos cur i (by omega)]
      simp only [Option.map_some, Nat.zero_le, true_and, Nat.zero_add, size_flatK, hn, hi, if_true, Nat.sub_zero]
      rw [get_flatK _ _ _ _ (by rw [hn]; exact hi), getElem!_pos d (i / 24) (by omega)]
      have hg := encB_get d[i / 24].1 (i % 24) hr
      have e2 : (d.toList.map (·.1))[i / 24]'(by rw [hdl]; exact hj) = d[i / 24].1 := by simp
      rw [e2, hg]
      show some (id (encB d[i / 24].1)[i % 24]!) = _
      rw [List.getElem!_eq_getElem?_getD, hg]; rfl
    · rw [List.getElem?_eq_none (by simp; omega), List.getElem?_eq_none (by rw [flatB_length, hdl]; omega)]
theorem sort_below {w w' : World} {g B : Nat} {d : Array (LB × Nat)} (S : SWK encP 24 w g 0 d w') (hB : B ≤ g) (hl : g < w.heap.size) : RowKit.Below B w w' := by
  obtain ⟨m, os, rfl⟩ := S
  have h1 : (sortWorldK encP 24 w g 0 m d os).heap = w.heap.modify g (onCells (putCells id 0 (flatK encP 24 d))) ++ os := rfl
  refine ⟨rfl, rfl, rfl, by rw [h1]; simp, fun k hk => ?_⟩
  rw [h1, Array.getElem?_append_left (by simp; omega), Array.getElem?_modify, if_neg (by omega)]
end Go.Proofs.Ythlbplmghjaeoae
