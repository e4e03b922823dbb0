/- Sums of listed boards; the first board with the greatest sum. -/
import Derived.Test.YtcgennclammjnabKI
import Derived.Test.YtcgennclammjnabKM
import Derived.Test.YtcgennclammjnabKN
import Derived.Test.YtcgennclammjnabKA
import Derived.Test.YtcgennclammjnabKB
import Derived.Test.YtcgennclammjnabJ8
import Derived.Outline
namespace Go.Proofs.Ytcgennclammjnab

theorem und_all (W H : Nat) (hW : 1 ≤ W ∧ W ≤ 8) (hH : 1 ≤ H ∧ H ≤ 8) (h12 : W * H ≤ 12) : under (adjP W (W * H)) (topG W H) (2 ^ (W * H)) = true := by
  rcases Nat.lt_or_ge (W * H) 12 with h | h
  · exact und_rest W H hW hH (by omega)
  · have e : W * H = 12 := by omega
    have hw : W = 1 ∨ W = 2 ∨ W = 3 ∨ W = 4 ∨ W = 5 ∨ W = 6 ∨ W = 7 ∨ W = 8 := by omega
    rcases hw with rfl | rfl | rfl | rfl | rfl | rfl | rfl | rfl
    · omega
    · obtain rfl : H = 6 := by omega
      exact und26
    · obtain rfl : H = 4 := by omega
      exact und34
    · obtain rfl : H = 3 := by omega
      exact und43
    · omega
    · obtain rfl : H = 2 := by omega
      exact und62
    · omega
    · omega
theorem allM_mem {n : Nat} {c : List UInt8} : c ∈ allM n (-1) ↔ ∃ m, m < 2 ^ n ∧ c = ctB n m := by
  rw [allM, allK, List.filter_eq_self.2 (fun c _ => by simp [mnB]), List.mem_map]
  constructor
  · rintro ⟨m, hm, rfl⟩; exact ⟨m, List.mem_range.1 hm, rfl⟩
  · rintro ⟨m, hm, rfl⟩; exact ⟨m, List.mem_range.2 hm, rfl⟩
/-- No sum is greater than the greatest, and a board has it. -/
theorem sums_top (W H : Nat) (hW : 1 ≤ W ∧ W ≤ 8) (hH : 1 ≤ H ∧ H ≤ 8) (h12 : W * H ≤ 12) :
    (∀ c ∈ allM (W * H) (-1), sumGo c W 0 c.length ≤ topG W H) ∧ (∃ c ∈ allM (W * H) (-1), sumGo c W 0 c.length = topG W H) ∧ ((topG W H : Nat) : Int) = gsM W H := by
  obtain ⟨h1, h2, h3⟩ := top_hit W H hW hH h12
  refine ⟨fun c hc => ?_, ?_, h3⟩
  · obtain ⟨m, hm, rfl⟩ := allM_mem.1 hc
    rw [ctB_length, ← bitS_sum, ← ordS_bit]
    exact under_le (und_all W H hW hH h12) m hm
  · refine ⟨ctB (W * H) (topM W H), allM_mem.2 ⟨_, h1, rfl⟩, ?_⟩
    rw [ctB_length, ← bitS_sum, ← ordS_bit, h2]

theorem fg_keep (W G : Nat) : ∀ (A : List (List UInt8)) (b : List UInt8), (∀ c ∈ A, sumGo c W 0 c.length ≤ G) → A.foldl (fgS W) (b, (G : Int)) = (b, (G : Int))
  | [], _, _ => rfl
  | c :: r, b, h => by
    have := h c (List.mem_cons_self ..)
    rw [List.foldl_cons, fgS, if_neg (by simp only []; omega)]
    exact fg_keep W G r b fun d hd => h d (List.mem_cons_of_mem _ hd)
theorem fg_first (W G : Nat) : ∀ (A : List (List UInt8)) (b : List UInt8) (s : Int), s < G → (∀ c ∈ A, sumGo c W 0 c.length ≤ G) → (∃ c ∈ A, sumGo c W 0 c.length = G) →
    A.find? (fun c => decide (sumGo c W 0 c.length = G)) = some (A.foldl (fgS W) (b, s)).1
  | [], _, _, _, _, ⟨c, hc, _⟩ => by cases hc
  | c :: r, b, s, hs, h, hex => by
    have hle := h c (List.mem_cons_self ..)
    by_cases e : sumGo c W 0 c.length = G
    · rw [List.find?_cons_of_pos (by simpa using e), List.foldl_cons, fgS, if_pos (by simp only [e]; exact hs)]
      simp only [e]
      rw [fg_keep W G r c fun d hd => h d (List.mem_cons_of_mem _ hd)]
    · rw [List.find?_cons_of_neg (by simpa using e), List.foldl_cons]
      have hr : ∃ d ∈ r, sumGo d W 0 d.length = G := by
        obtain ⟨d, hd, hde⟩ := hex
        rcases List.mem_cons.1 hd with rfl | hd
        · exact absurd hde e
        · exact ⟨d, hd, hde⟩
      unfold fgS
      by_cases q : s < (sumGo c W 0 c.length : Nat)
      · rw [if_pos q]; exact fg_first W G r c _ (by omega) (fun d hd => h d (List.mem_cons_of_mem _ hd)) hr
      · rw [if_neg q]; exact fg_first W G r b s hs (fun d hd => h d (List.mem_cons_of_mem _ hd)) hr

theorem sumGo_snoc (cells : List UInt8) (W : Nat) : ∀ m k, sumGo cells W k (m + 1) = sumGo cells W k m + if cells.getD (k + m) 0 = 42 then 0 else numM cells W (k + m)
  | 0, k => by simp only [sumGo, Nat.add_zero]; split <;> omega
  | m + 1, k => by
    rw [sumGo, sumGo_snoc cells W m (k + 1), sumGo, show k + 1 + m = k + (m + 1) by omega]
    split <;> omega
theorem pre_at (W n : Nat) (u : List UInt8) (i : Nat) (hi : i < 12) : (preB W n u).at i = u.getD i 0 := preP_sign W n u i hi
theorem pre_num (W n : Nat) (u : List UInt8) (i : Nat) (hi : i < 12) : (preB W n u).at (12 + i) = UInt8.ofNat (numW W n u i) := preP_num W n u i hi
/-- The number of a cell of a listed board. -/
theorem pre_numM (W H : Nat) (hW : W ≤ 8) (hH : H ≤ 8) (h12 : W * H ≤ 12) (c : List UInt8) (hn : c.length = W * H) (i : Nat) (hi : i < W * H) : ((preB W (W * H) c).at (12 + i)).toNat = numM c W i := by
  rw [pre_num _ _ _ _ (by omega), numW_num W H hW hH h12 c hn i hi]
  have := numM_le c W i
  rw [UInt8.toNat_ofNat']
  omega
theorem pre_sums (W H : Nat) (hW : W ≤ 8) (hH : H ≤ 8) (h12 : W * H ≤ 12) (c : List UInt8) (hn : c.length = W * H) (hb : Brd2 c) : (preB W (W * H) c).sms = sumGo c W 0 c.length := by
  have step : ∀ k, k ≤ W * H → (preB W (W * H) c).smK k = sumGo c W 0 k := by
    intro k
    induction k with
    | zero => intro _; rfl
    | succ k ih =>
      intro hk
      have hk' : k < c.length := by omega
      rw [LB.smK, ih (by omega), sumGo_snoc, Nat.zero_add, pre_at _ _ _ _ (by omega), pre_numM W H hW hH h12 c hn k (by omega)]
      have e : c.getD k 0 = c[k] := by simp [List.getD, hk']
      rw [e]
      rcases hb c[k] (List.getElem_mem hk') with h | h <;> rw [h] <;> simp
  have rest : ∀ d, W * H + d ≤ 12 → (preB W (W * H) c).smK (W * H + d) = (preB W (W * H) c).smK (W * H) := by
    intro d
    induction d with
    | zero => intro _; rfl
    | succ d ih =>
      intro hd
      rw [← Nat.add_assoc, LB.smK, ih (by omega), pre_at _ _ _ _ (by omega)]
      have e : c.getD (W * H + d) 0 = 0 := by simp [List.getD, hn]
      rw [e]
      simp
  have := rest (12 - W * H) (by omega)
  rw [show W * H + (12 - W * H) = 12 by omega] at this
  rw [LB.sms, this, step _ (Nat.le_refl _), hn]
end Go.Proofs.Ytcgennclammjnab
