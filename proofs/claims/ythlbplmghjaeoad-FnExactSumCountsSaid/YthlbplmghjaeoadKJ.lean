/- Sums of listed boards; the first board with the greatest sum. -/
import Derived.Test.YthlbplmghjaeoadGKI
import Derived.Test.YthlbplmghjaeoadKA
import Derived.Test.YthlbplmghjaeoadGK0
import Derived.Test.YthlbplmghjaeoadGKR
import Derived.Test.YthlbplmghjaeoadJ8
import Derived.Outline
namespace Go.Proofs.Ythlbplmghjaeoad

theorem und_all (W H : Nat) (hW : 1 ≤ W ∧ W ≤ 8) (hH : 1 ≤ H ∧ H ≤ 8) (h12 : W * H ≤ 12) : under (adjP W (W * H)) (topG W H) (2 ^ (W * H)) = true := by
  rcases Nat.lt_or_ge (W * H) 12 with h | h
  · exact und_rest W H hW hH (by omega)
  · have e : W * H = 12 := by omega
    have hw : W = 1 ∨ W = 2 ∨ W = 3 ∨ W = 4 ∨ W = 5 ∨ W = 6 ∨ W = 7 ∨ W = 8 := by omega
    rcases hw with rfl | rfl | rfl | rfl | rfl | rfl | rfl | rfl
    · omega
    · obtain rfl : H = 6 := by omega
      exact und26
    · obtain rfl : H = 4 := by omega
      exact und34
    · obtain rfl : H = 3 := by omega
      exact und43
    · omega
    · obtain rfl : H = 2 := by omega
      exact und62
    · omega
    · omega
theorem allM_mem {n : Nat} {c : List UInt8} : c ∈ allM n (-1) ↔ ∃ m, m < 2 ^ n ∧ c = ctB n m := by
  rw [allM, allK, List.filter_eq_self.2 (fun c _ => by simp [mnB]), List.mem_map]
  constructor
  · rintro ⟨m, hm, rfl⟩; exact ⟨m, List.mem_range.1 hm, rfl⟩
  · rintro ⟨m, hm, rfl⟩; exact ⟨m, List.mem_range.2 hm, rfl⟩
/-- No sum is greater than the greatest, and a board has it. -/
theorem sums_top (W H : Nat) (hW : 1 ≤ W ∧ W ≤ 8) (hH : 1 ≤ H ∧ H ≤ 8) (h12 : W * H ≤ 12) :
    (∀ c ∈ allM (W * H) (-1), sumGo c W 0 c.length ≤ topG W H) ∧ (∃ c ∈ allM (W * H) (-1), sumGo c W 0 c.length = topG W H) ∧ ((topG W H : Nat) : Int) = gsM W H := by
  obtain ⟨h1, h2, h3⟩ := top_hit W H hW hH h12
  refine ⟨fun c hc => ?_, ?_, h3⟩
  · obtain ⟨m, hm, rfl⟩ := allM_mem.1 hc
    rw [ctB_length, ← bitS_sum, ← ordS_bit]
    exact under_le (und_all W H hW hH h12) m hm
  · refine ⟨ctB (W * H) (topM W H), allM_mem.2 ⟨_, h1, rfl⟩, ?_⟩
    rw [ctB_length, ← bitS_sum, ← ordS_bit, h2]

theorem fg_keep (W G : Nat) : ∀ (A : List (List UInt8)) (b : List UInt8), (∀ c ∈ A, sumGo c W 0 c.length ≤ G) → A.foldl (fgS W) (b, (G : Int)) = (b, (G : Int))
  | [], _, _ => rfl
  | c :: r, b, h => by
    have := h c (List.mem_cons_self ..)
    rw [List.foldl_cons, fgS, if_neg (by simp only []; omega)]
    exact fg_keep W G r b fun d hd => h d (List.mem_cons_of_mem _ hd)
theorem fg_first (W G : Nat) : ∀ (A : List (List UInt8)) (b : List UInt8) (s : Int), s < G → (∀ c ∈ A, sumGo c W 0 c.length ≤ G) → (∃ c ∈ A, sumGo c W 0 c.length = G) →
    A.find? (fun c => decide (sumGo c W 0 c.length = G)) = some (A.foldl (fgS W) (b, s)).1
  | [], _, _, _, _, ⟨c, hc, _⟩ => by cases hc
  | c :: r, b, s, hs, h, hex => by
    have hle := h c (List.mem_cons_self ..)
    by_cases e : sumGo c W 0 c.length = G
    · rw [List.find?_cons_of_pos (by simpa using e), List.foldl_cons, fgS, if_pos (by simp only [e]; exact hs)]
      simp only [e]
      rw [fg_keep W G r c fun d hd => h d (List.mem_cons_of_mem _ hd)]
    · rw [List.find?_cons_of_neg (by simpa using e), List.foldl_cons]
      have hr : ∃ d ∈ r, sumGo d W 0 d.length = G := by
        obtain ⟨d, hd, hde⟩ := hex
        rcases List.mem_cons.1 hd with rfl | hd
        · exact absurd hde e
        · exact ⟨d, hd, hde⟩
      unfold fgS
      by_cases q : s < (sumGo c W 0 c.length : Nat)
      · rw [if_pos q]; exact fg_first W G r c _ (by omega) (fun d hd => h d (List.mem_cons_of_mem _ hd)) hr
      · rw [if_neg q]; exact fg_first W G r b s hs (fun d hd => h d (List.mem_cons_of_mem _ hd)) hr

end Go.Proofs.Ythlbplmghjaeoad
