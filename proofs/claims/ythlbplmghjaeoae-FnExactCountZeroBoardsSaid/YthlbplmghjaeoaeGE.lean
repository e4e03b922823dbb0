/- The first board with the fewest mines beside all cells: the least of a sorted list is what the model keeps. -/
import Derived.Test.YthlbplmghjaeoaeGGC
import Derived.Test.YthlbplmghjaeoaeGJ9
import Derived.Test.YthlbplmghjaeoaeKR
import Derived.Test.YthlbplmghjaeoaeKP
namespace Go.Proofs.Ythlbplmghjaeoae
open Go.RowKit

theorem places_count (b : UInt8) : ∀ (L : List UInt8) (i : Nat), (placesGo b i L).length = L.countP (fun c => c = b)
  | [], _ => rfl
  | c :: r, i => by
    rw [placesGo, List.countP_cons]
    by_cases h : c = b
    · rw [if_pos h, List.length_cons, places_count b r, if_pos (by simpa using h)]
    · rw [if_neg h, places_count b r, if_neg (by simpa using h)]; rfl
theorem pre_at_out (W n : Nat) (c : List UInt8) (hc : c.length = n) (k : Nat) (hk : k < 12) (hn : n ≤ k) : (preB W n c).at k = 0 := by
  rw [pre_at W n c k hk]
  simp [List.getD, List.getElem?_eq_none (show c.length ≤ k by omega)]
theorem pre_mnK (W n : Nat) (c : List UInt8) (hc : c.length = n) : ∀ k, k ≤ 12 → (preB W n c).mnK k = (c.take k).countP (fun c => c = 42)
  | 0, _ => rfl
  | k + 1, h => by
    rw [LB.mnK, pre_mnK W n c hc k (by omega), is42]
    by_cases hk : k < n
    · rw [List.take_succ_eq_append_getElem (by omega), List.countP_append, pre_at W n c k (by omega)]
      have e : c.getD k 0 = c[k] := by simp [List.getD, show k < c.length by omega]
      rw [e]
      by_cases q : c[k] = 42 <;> simp [q]
    · rw [pre_at_out W n c hc k (by omega) (by omega), List.take_of_length_le (by omega), List.take_of_length_le (by omega)]
      simp
theorem pre_mns (W n : Nat) (c : List UInt8) (hc : c.length = n) (hn : n ≤ 12) : (preB W n c).mns = (places 42 c).length := by
  rw [LB.mns, pre_mnK W n c hc 12 (Nat.le_refl _), List.take_of_length_le (by omega), places, places_count]
theorem hzK_any (x : LB) : ∀ k, x.hzK k = (List.range k).any fun i => (((x.at i).toNat : Int) == 46) && (((x.at (12 + i)).toNat : Int) == 0)
  | 0 => rfl
  | k + 1 => by rw [LB.hzK, hzK_any x k, List.range_succ, List.any_append]; simp
theorem pre_hz (W H : Nat) (hW : W ≤ 8) (hH : H ≤ 8) (h12 : W * H ≤ 12) (c : List UInt8) (hc : c.length = W * H) (hb : Brd2 c) : (preB W (W * H) c).hz = !fitK c W c.length := by
  rw [LB.hz, hzK_any, Bool.eq_iff_iff, List.any_eq_true, Bool.not_eq_true', fitK]
  constructor
  · rintro ⟨i, hi, h⟩
    rw [List.mem_range] at hi
    rw [Bool.and_eq_true, beq_iff_eq, beq_iff_eq] at h
    have hin : i < W * H := by
      rcases Nat.lt_or_ge i (W * H) with q | q
      · exact q
      · have h1 := h.1
        rw [pre_at_out W (W * H) c hc i hi q] at h1
        exact absurd h1 (by decide)
    rw [Bool.eq_false_iff, ne_eq, List.all_eq_true]
    intro hall
    have h2 := hall i (List.mem_range.2 (by omega))
    have h3 := h.2
    have h1 := h.1
    rw [pre_numM W H hW hH h12 c hc i hin] at h3
    rw [pre_at W (W * H) c i hi] at h1
    have h4 : numM c W i = 0 := by omega
    rw [nfB, h4, decide_eq_false (show ¬ 0 < 0 by omega), Bool.or_false, decide_eq_true_eq] at h2
    rw [h2] at h1
    exact absurd h1 (by decide)
  · intro h
    rw [Bool.eq_false_iff, ne_eq, List.all_eq_true] at h
    have h := Classical.not_forall.1 h
    obtain ⟨i, hi⟩ := h
    have hi := Classical.not_imp.1 hi
    obtain ⟨hi, hn⟩ := hi
    rw [List.mem_range, hc] at hi
    refine ⟨i, List.mem_range.2 (by omega), ?_⟩
    rw [nfB, Bool.or_eq_true, decide_eq_true_eq, decide_eq_true_eq] at hn
    have e : c.getD i 0 = c[i]'(by omega) := by simp [List.getD, show i < c.length by omega]
    have h46 : c.getD i 0 = 46 := by
      rw [e] at hn ⊢
      rcases hb _ (List.getElem_mem (show i < c.length by omega)) with q | q
      · exact q
      · exact absurd (.inl q) hn
    rw [Bool.and_eq_true, beq_iff_eq, beq_iff_eq, pre_numM W H hW hH h12 c hc i hi, pre_at W (W * H) c i (by omega), h46]
    refine ⟨by decide, ?_⟩
    have : ¬ 0 < numM c W i := fun q => hn (.inr q)
    omega
/-- What the fold keeps: the first of the least that fit. -/
theorem nrL_is (W n : Nat) (A : List (List UInt8)) (hA : ∀ c ∈ A, (places 42 c).length ≤ n) : ∀ k, k ≤ A.length →
    ((∀ i (hi : i < A.length), i < k → fitK A[i] W A[i].length = false) ∧ nrL W n (A.take k) = ([], (n : Int) + 1)) ∨
    ∃ i, ∃ hi : i < A.length, i < k ∧ nrL W n (A.take k) = (A[i], ((places 42 A[i]).length : Int)) ∧ fitK A[i] W A[i].length = true ∧
      ∀ t (ht : t < A.length), t < k → fitK A[t] W A[t].length = true → (places 42 A[i]).length < (places 42 A[t]).length ∨ ((places 42 A[i]).length = (places 42 A[t]).length ∧ i ≤ t)
  | 0, _ => .inl ⟨fun i _ h => by omega, rfl⟩
  | k + 1, h => by
    have hk : k < A.length := h
    rw [nrL_snoc W n A k hk]
    have hm := hA A[k] (List.getElem_mem hk)
    rcases nrL_is W n A hA k (by omega) with ⟨h1, h2⟩ | ⟨i, hi, g1, g2, g3, g4⟩
    · rw [h2, nrT]
      by_cases q : fitK A[k] W A[k].length = true
      · rw [if_pos ⟨by show ((places 42 A[k]).length : Int) < (n : Int) + 1; omega, q⟩]
        refine .inr ⟨k, hk, by omega, rfl, q, fun t ht htk hf => ?_⟩
        rcases Nat.lt_or_ge t k with q2 | q2
        · rw [h1 t ht q2] at hf; cases hf
        · obtain rfl : t = k := by omega
          exact .inr ⟨rfl, Nat.le_refl _⟩
      · rw [if_neg (fun x => q x.2)]
        refine .inl ⟨fun t ht htk => ?_, rfl⟩
        rcases Nat.lt_or_ge t k with q2 | q2
        · exact h1 t ht q2
        · obtain rfl : t = k := by omega
          simpa using q
    · rw [g2, nrT]
      by_cases q : ((places 42 A[k]).length : Int) < ((places 42 A[i]).length : Int) ∧ fitK A[k] W A[k].length = true
      · rw [if_pos q]
        refine .inr ⟨k, hk, by omega, rfl, q.2, fun t ht htk hf => ?_⟩
        rcases Nat.lt_or_ge t k with q2 | q2
        · have := g4 t ht q2 hf
          have := q.1
          left; omega
        · obtain rfl : t = k := by omega
          exact .inr ⟨rfl, Nat.le_refl _⟩
      · rw [if_neg q]
        refine .inr ⟨i, hi, by omega, rfl, g3, fun t ht htk hf => ?_⟩
        rcases Nat.lt_or_ge t k with q2 | q2
        · exact g4 t ht q2 hf
        · obtain rfl : t = k := by omega
          have : ¬ ((places 42 A[t]).length : Int) < ((places 42 A[i]).length : Int) := fun x => q ⟨x, hf⟩
          omega
def brds (d : Array (LB × Nat)) : List LB := d.toList.map fun p => p.1
theorem brds_len (d : Array (LB × Nat)) : (brds d).length = d.size := by simp [brds]
theorem brds_get (d : Array (LB × Nat)) (j : Nat) (h : j < (brds d).length) (h2 : j < d.size) : (brds d)[j] = d[j].1 := by simp [brds]
/-- The first of the sorted boards without a zero is the model's. -/
theorem near_first (W H : Nat) (hW : 1 ≤ W ∧ W ≤ 8) (hH : 1 ≤ H ∧ H ≤ 8) (h12 : W * H ≤ 12) (d : Array (LB × Nat)) (hd : d.size = (listGo W (W * H) (W * H)).length)
    (hp : Sort.PermIn 0 (listGo W (W * H) (W * H)).length (listGo W (W * H) (W * H)).zipIdx.toArray d) (hs : Sort.SortedIn (ltX (fun p : LB × Nat => p.1.mns) (fun p => p.2)) 0 (listGo W (W * H) (W * H)).length d) :
    ∃ j, ∃ hj : j < (brds d).length, (brds d).findIdx (fun x => !x.hz) = j ∧ (brds d)[j].1.take (W * H) = nearT W H ∧ (brds d)[j].mns = (places 42 (nearT W H)).length ∧ ∃ x ∈ brds d, (!x.hz) = true := by
  have hL := listGo_all W (W * H) h12
  generalize hLL : listGo W (W * H) (W * H) = L at *
  have hlen : L.length = (allM (W * H) (-1)).length := by rw [hL, List.length_map]
  have hget : ∀ i (hi : i < L.length), L[i] = preB W (W * H) ((allM (W * H) (-1))[i]'(by omega)) := fun i hi => by simp only [hL, List.getElem_map]
  -- members of the sorted list
  have hperm : d.toList.Perm L.zipIdx := by
    have h3 := hp.2.2
    have e1 : (d.extract 0 L.length).toList = d.toList := by rw [← hd]; simp
    have e2 : (L.zipIdx.toArray.extract 0 L.length).toList = L.zipIdx := by
      have : L.length = L.zipIdx.toArray.size := by simp
      rw [this]; simp [List.take_of_length_le]
    rw [e1, e2] at h3
    exact h3
  have hmem : ∀ p, p ∈ d.toList → ∃ i, ∃ hi : i < L.length, p = (L[i], i) := fun p hm => by
    have h1 := (hperm.mem_iff).1 hm
    obtain ⟨i, hi, e⟩ := List.mem_iff_getElem.1 h1
    have hi' : i < L.length := by simpa using hi
    exact ⟨i, hi', by rw [← e]; simp⟩
  have hmem2 : ∀ i (hi : i < L.length), (L[i], i) ∈ d.toList := fun i hi => (hperm.mem_iff).2 (List.mem_iff_getElem.2 ⟨i, by simpa using hi, by simp⟩)
  have hA : ∀ c ∈ allM (W * H) (-1), (places 42 c).length ≤ W * H := fun c hc => by
    have := placesGo_le 42 c 0
    rw [allM_len hc] at this
    exact this
  have hfit : ∀ i (hi : i < L.length), (!L[i].hz) = fitK ((allM (W * H) (-1))[i]'(by omega)) W ((allM (W * H) (-1))[i]'(by omega)).length := fun i hi => by
    have hm := List.getElem_mem (l := allM (W * H) (-1)) (n := i) (by omega)
    rw [hget i hi, pre_hz W H hW.2 hH.2 h12 _ (allM_len hm) (allM_brd hm), Bool.not_not]
  have hmns : ∀ i (hi : i < L.length), L[i].mns = (places 42 ((allM (W * H) (-1))[i]'(by omega))).length := fun i hi => by
    have hm := List.getElem_mem (l := allM (W * H) (-1)) (n := i) (by omega)
    rw [hget i hi, pre_mns W (W * H) _ (allM_len hm) h12]
  -- the model's
  have hpos : 0 < (allM (W * H) (-1)).length := allM_pos _
  have hlast := nrL_is W (W * H) (allM (W * H) (-1)) hA _ (Nat.le_refl _)
  rw [List.take_length] at hlast
  have hnear : nearT W H = (nrL W (W * H) (allM (W * H) (-1))).1 := rfl
  rcases hlast with ⟨h1, h2⟩ | ⟨i, hi, _, g2, g3, g4⟩
  · exfalso
    have := nearT_len W H
    rw [hnear, h2] at this
    have : W * H = 0 := this.symm
    have := Nat.mul_pos (show 0 < W by omega) (show 0 < H by omega)
    omega
  · have hiL : i < L.length := by omega
    have hex : ∃ x ∈ brds d, (!x.hz) = true := ⟨L[i], List.mem_map.2 ⟨_, hmem2 i hiL, rfl⟩, by rw [hfit i hiL]; exact g3⟩
    have hjl : (brds d).findIdx (fun x => !x.hz) < (brds d).length := List.findIdx_lt_length.2 hex
    refine ⟨_, hjl, rfl, ?_⟩
    have hdl : (brds d).length = L.length := by rw [brds_len, hd]
    generalize hj : (brds d).findIdx (fun x => !x.hz) = j at *
    have hjd : j < d.size := by omega
    have hpj : (!(brds d)[j].hz) = true := by
      have := List.findIdx_getElem (w := by rw [hj]; exact hjl) (xs := brds d) (p := fun x : LB => !x.hz)
      simpa only [hj] using this
    have hbef : ∀ t (ht : t < (brds d).length), t < j → (!(brds d)[t].hz) = false := fun t ht htj => by
      have := List.not_of_lt_findIdx (xs := brds d) (p := fun x : LB => !x.hz) (i := t) (by rw [hj]; exact htj)
      simpa using this
    have ej : (brds d)[j] = d[j].1 := brds_get d j hjl hjd
    obtain ⟨i', hi', e'⟩ := hmem d[j] (by simp)
    -- the place of the model's board in the sorted list
    obtain ⟨t, ht, et⟩ := List.mem_iff_getElem.1 (hmem2 i hiL)
    have ht' : t < d.size := by simpa using ht
    have et' : d[t] = (L[i], i) := by simpa using et
    have hpi : (!L[i].hz) = true := by rw [hfit i hiL]; exact g3
    have htj : j ≤ t := by
      rcases Nat.lt_or_ge t j with q | q
      · have := hbef t (by omega) q
        have e2 : (brds d)[t]'(by omega) = d[t].1 := brds_get d t (by omega) ht'
        rw [e2, et', hpi] at this
        cases this
      · exact q
    rw [ej, e'] at hpj
    have hf' := hfit i' hi'
    rw [hpj] at hf'
    have g5 := g4 i' (by omega) (by omega) hf'.symm
    rw [← hmns i hiL, ← hmns i' hi'] at g5
    have hii : i' = i := by
      rcases Nat.lt_or_ge j t with q | q
      · have hsl := hs j t (Nat.zero_le _) q (by omega)
        rw [getElem!_pos d t ht', getElem!_pos d j hjd, et', e', ltX_not] at hsl
        simp only at hsl
        omega
      · have : t = j := by omega
        subst this
        rw [et'] at e'
        exact (Prod.mk.inj e').2.symm
    subst hii
    have hm := List.getElem_mem (l := allM (W * H) (-1)) (n := i') (by omega)
    have hn2 : nearT W H = (allM (W * H) (-1))[i']'(by omega) := by rw [hnear, g2]
    refine ⟨?_, ?_, hex⟩
    · rw [ej, e', hn2]
      show L[i'].1.take (W * H) = _
      rw [hget i' hi']
      exact pre_take W (W * H) _ (allM_len hm) h12
    · rw [ej, e', hn2]
      exact hmns i' hi'
end Go.Proofs.Ythlbplmghjaeoae
