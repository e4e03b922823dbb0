/- Puzzles by the model: whether a board fits a clue. -/
import Derived.Test.YthlbplmghjaeoaaDoorAF
import Derived.Deep.DeepCutAuto
import Derived.Outline
namespace Go.Proofs.YthlbplmghjaeoaaDoor
open Go.RowKit

set_option maxRecDepth 100000 in
set_option maxHeartbeats 1600000 in
theorem pzFits_any (l : List UInt8) (W H : Nat) (cells : List UInt8) (c : Clu) (w : World) (hl : l.length ≤ 1048576) (hB : Brd l W H cells) (hc : cluB W H c = true) :
    Calls Tryd.prog 33 #[valC c, .string ⟨l.toArray⟩] w fun e w' => e = .returned (.bool (fitC W cells c)) ∧ Below w.heap.size w w' := by
  have h2 : c.k = 2 → 0 ≤ c.a ∧ c.a < cells.length := fun h => by
    unfold cluB limC at hc
    rw [h] at hc
    simp [inB] at hc
    rw [hB.len]
    omega
  have HP0 := Lib.hid (fun w (h : c.k = 1 ∨ c.k = 5) => pzValue_any l W H cells c.k 0 w hl hB (fun q => by omega))
  have HP := Lib.hid (fun w => pzValue_any l W H cells c.k c.a w hl hB h2)
  have HF : Hid (fitC W cells c = if c.k = 1 ∨ c.k = 5 then ((vlC W cells c.k 0 : Nat) : Int) == c.a else ((vlC W cells c.k c.a : Nat) : Int) == c.b) := rfl
  have hb : Below w.heap.size w (w.alloc (.cells #[.int .i64 c.k, .int .i64 c.a, .int .i64 c.b] 26)) := (Below.refl _ _).alloc (Nat.le_refl _) _
  have hG := heap_alloc_new w (.cells #[.int .i64 c.k, .int .i64 c.a, .int .i64 c.b] 26)
  unfold valC
  clear hc h2 hB
  by_cases hk : c.k = 1 ∨ c.k = 5
  · rw [if_pos hk] at HF
    have hkk := hk
    replace HP0 := Lib.hid (fun w => HP0.out w hk)
    generalize vlC W cells c.k 0 = v at *
    have hdd : (c.k == 1) = true ∨ ((c.k == 1) = false ∧ (c.k == 5) = true) := by
      rcases hk with h | h
      · exact .inl (by rw [h]; rfl)
      · exact .inr ⟨by rw [h]; rfl, by rw [h]; rfl⟩
    clear hk hkk HP
    rcases hdd with d1 | ⟨d1, d5⟩
    all_goals
      go_enter Tryd.func33, Tryd.ntmps33
      go_upto_region 2 with fail
      generalize w.alloc (.cells #[.int .i64 c.k, .int .i64 c.a, .int .i64 c.b] 26) = w1 at *
      have f0 := cell_of_block hG 0
      have f1 := cell_of_block hG 1
      have f2 := cell_of_block hG 2
      simp at f0 f1 f2
      have HG := Lib.hid hG
      have HB := Lib.hid hb
      clear hG hb
      go_region_law (first
        | (go_simp; go_at_call 63; refine (HP0.out _).mono ?_; rintro e w2 ⟨rfl, hb2⟩; have HG2 := Lib.hid ((hb2.block _ (block_lt HG.out)).trans HG.out); have y0 := cell_of_block HG2.out 0; have y1 := cell_of_block HG2.out 1; have y2 := cell_of_block HG2.out 2; simp at y0 y1 y2)
        | fail)
      all_goals
        have hb3 := HB.out.trans ((ofDrewC hb2).mono HB.out.size)
        go_wp2_with fail
        go_ret
        exact ⟨by rw [HF.out] <;> rfl, hb3⟩
  · rw [if_neg hk] at HF
    have d1 : (c.k == 1) = false := by simp; omega
    have d5 : (c.k == 5) = false := by simp; omega
    generalize vlC W cells c.k c.a = v at *
    clear hk HP0
    go_enter Tryd.func33, Tryd.ntmps33
    go_upto_region 3 with fail
    generalize w.alloc (.cells #[.int .i64 c.k, .int .i64 c.a, .int .i64 c.b] 26) = w1 at *
    have f0 := cell_of_block hG 0
    have f1 := cell_of_block hG 1
    have f2 := cell_of_block hG 2
    simp at f0 f1 f2
    have HG := Lib.hid hG
    have HB := Lib.hid hb
    clear hG hb
    go_region_law (first
      | (go_simp; go_at_call 63; refine (HP.out _).mono ?_; rintro e w2 ⟨rfl, hb2⟩; have HG2 := Lib.hid ((hb2.block _ (block_lt HG.out)).trans HG.out); have y0 := cell_of_block HG2.out 0; have y1 := cell_of_block HG2.out 1; have y2 := cell_of_block HG2.out 2; simp at y0 y1 y2)
      | fail)
    all_goals
      have hb3 := HB.out.trans ((ofDrewC hb2).mono HB.out.size)
      go_wp2_with fail
      go_ret
      exact ⟨by rw [HF.out] <;> rfl, hb3⟩
end Go.Proofs.YthlbplmghjaeoaaDoor
