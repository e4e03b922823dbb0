/- Clicks read by the program, in any case; the cells open behind them. -/
import Derived.Test.YtndmkbkmfonefacDoorVA
import Derived.Test.YtndmkbkmfonefacDoorV6
import Derived.Outline
namespace Go.Proofs.YtndmkbkmfonefacDoor
open Go.RowKit

/-- What the program reads of a board and clicks: none if one of them is none. -/
def kC (l : List UInt8) (xs : List Int) : List UInt8 := if clkOK l xs = true then gCells l else []
def kW (l : List UInt8) (xs : List Int) : Nat := if clkOK l xs = true then gW l else 0
def kH (l : List UInt8) (xs : List Int) : Nat := if clkOK l xs = true then gH l else 0
def kS (l : List UInt8) (xs : List Int) : List Nat := if clkOK l xs = true then csOf xs else []
theorem kC_le (l : List UInt8) (xs : List Int) : (kC l xs).length ≤ 64 := by
  unfold kC; split
  · exact gCells_le l
  · simp
theorem kS_le (l : List UInt8) (xs : List Int) : (kS l xs).length ≤ 64 := by
  unfold kS; split
  · rename_i h; rw [csOf_length]; exact (clk_yes h).2.1
  · simp
theorem kW_pos (l : List UInt8) (xs : List Int) : 0 < (kC l xs).length → 1 ≤ kW l xs := by
  unfold kC kW; split
  · exact gW_pos l
  · simp
theorem kS_lt (l : List UInt8) (xs : List Int) : ∀ c ∈ kS l xs, c < (kC l xs).length := by
  unfold kS kC; split
  · rename_i h; exact fun c hc => ((clk_cells h).2 c hc).1
  · simp
theorem oaOf_len (l : List UInt8) (xs : List Int) : (oaOf l xs).length ≤ 1048576 := by
  unfold oaOf; split
  · have := sortM_le (gCells l).length (aftL (gCells l) (gW l) [] (csOf xs))
    have := gCells_le l
    unfold aftM; omega
  · simp
theorem oa_k (l : List UInt8) (xs : List Int) : oaOf l xs = aftM (kC l xs) (kW l xs) (kS l xs) := by
  unfold oaOf kC kW kS
  split
  · rfl
  · rfl

theorem csOf_ints {l : List UInt8} {xs : List Int} (h : clkOK l xs = true) : xs = (csOf xs).map Int.ofNat := by
  obtain ⟨_, _, hf⟩ := clk_yes h
  simp only [csOf, List.map_map]
  conv => lhs; rw [← List.map_id xs]
  apply List.map_congr_left
  intro x hx
  obtain ⟨_, k, rfl, _, _⟩ := freeOK_yes (hf x hx)
  rfl
theorem readClicks_any (l : List UInt8) (xs : List Int) (a : Option Addr) (cap : Nat) (w : World) (hM : HasMax w) (hl : l.length ≤ 1048576) (hat : At w a (ints xs)) (hx : xs.length ≤ 1048576) :
    Calls Tryd.prog 64 #[.string ⟨l.toArray⟩, .slice a xs.length cap] w fun e w' => ∃ a' c', e = .returned (.tuple #[.agg #[.int .i64 (kW l xs), .int .i64 (kH l xs), .slice a' (kC l xs).length c', .bool false], .agg (lst (kS l xs)), .bool (clkOK l xs)])
      ∧ Owns w' w.heap.size 5 (.slice a' (kC l xs).length c') (byts (kC l xs)) ∧ Below w.heap.size w w' := by
  have hbad : clkOK l xs = false → kC l xs = [] ∧ kW l xs = 0 ∧ kH l xs = 0 ∧ kS l xs = [] := by
    intro h
    have hn : ¬ clkOK l xs = true := by rw [h]; decide
    exact ⟨by rw [kC, if_neg hn], by rw [kW, if_neg hn], by rw [kH, if_neg hn], by rw [kS, if_neg hn]⟩
  by_cases hg : boGoodM l = true
  · by_cases h64 : xs.length ≤ 64
    · have hck := clk_short hg h64
      refine (readClicks_good l xs a cap w hM hl hat h64 hg).mono ?_
      rintro e w' ⟨h | h, hb⟩
      · obtain ⟨hall, a', c', rfl, ho⟩ := h
        have hv : clkOK l xs = true := by rw [hck, hall]
        have e1 : lstK xs xs.length = lst (kS l xs) := by
          rw [kS, if_pos hv, ← lstK_nats (csOf xs), ← csOf_ints hv, csOf_length]
        refine ⟨a', c', ?_, ?_, hb⟩
        · rw [e1, kW, kH, kC, if_pos hv, if_pos hv, if_pos hv, hv]
        · rw [kC, if_pos hv]; exact ho
      · obtain ⟨hall, rfl⟩ := h
        have hv : clkOK l xs = false := by rw [hck, hall]
        obtain ⟨e1, e2, e3, e4⟩ := hbad hv
        rw [e1, e2, e3, e4, hv]
        exact ⟨none, 0, rfl, Owns.nil _ _ _, hb⟩
    · have hv : clkOK l xs = false := by simp [clkOK, h64]
      obtain ⟨e1, e2, e3, e4⟩ := hbad hv
      refine (readClicks_bad l xs a cap w hM hl hat hx (.inr ⟨hg, by omega⟩)).mono ?_
      rintro e w' ⟨rfl, hb⟩
      rw [e1, e2, e3, e4, hv]
      exact ⟨none, 0, rfl, Owns.nil _ _ _, hb⟩
  · have hg' : boGoodM l = false := by simpa using hg
    have hv : clkOK l xs = false := by simp [clkOK, hg']
    obtain ⟨e1, e2, e3, e4⟩ := hbad hv
    refine (readClicks_bad l xs a cap w hM hl hat hx (.inl hg')).mono ?_
    rintro e w' ⟨rfl, hb⟩
    rw [e1, e2, e3, e4, hv]
    exact ⟨none, 0, rfl, Owns.nil _ _ _, hb⟩

theorem lst_one (cs : List Nat) : (lst cs).all (·.oneCell') = true := by
  simp [lst, nats, ints, Value.oneCell']

end Go.Proofs.YtndmkbkmfonefacDoor
