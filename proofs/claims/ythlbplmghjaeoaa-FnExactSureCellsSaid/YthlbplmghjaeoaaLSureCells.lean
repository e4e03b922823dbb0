/- The law FnExactSureCells holds at every argument. -/
import Derived.Test.YthlbplmghjaeoaaB7
import Derived.Test.YthlbplmghjaeoaaA9
import Derived.Deep.DeepCutAuto
import Derived.Outline
namespace Go.Proofs.Ythlbplmghjaeoaa
open Go.RowKit

set_option maxRecDepth 100000 in
set_option maxHeartbeats 1600000 in
theorem law_SureCells (x y : Int) (cs : List Clu) (a : Option Addr) (cap : Nat) (w : World) (hat : At w a (flatC cs)) (hc : cs.length ≤ 9223372036854775807) :
    Calls Try.prog 4 #[.agg #[.int .i64 x, .int .i64 y, .slice a cs.length cap]] w fun e w' => e = .returned (.bool true) ∧ Below w.heap.size w w' := by
  have hb : Below w.heap.size w (w.alloc (.cells #[.int .i64 x, .int .i64 y, .slice a cs.length cap] 24)) := (Below.refl _ _).alloc (Nat.le_refl _) _
  by_cases hl : cs.length ≤ 1048576
  · have HSZ := Lib.hid (fun w => szPuzzle_yes x y a cs.length cap w hl)
    have HTP := Lib.hid (fun w h => toPuzzle_any x y cs a cap w h hl)
    have HS := Lib.hid (fun a' n' c' w hn h => sSure_any x y a' n' c' cs w hn h)
    have HI := Lib.hid (fun a' n' c' w hn h => iSure_any x y a' n' c' cs w hn h)
    have HE := Lib.hid (fun a' b' n' m' c' d' w hn hm h1 h2 => eqPuzzle_same x y cs a' b' n' m' c' d' w hn hm h1 h2 (by omega))
    have HG := Lib.hid (heap_alloc_new w (.cells #[.int .i64 x, .int .i64 y, .slice a cs.length cap] 24))
    have HAT := Lib.hid hat
    have hd : ∀ b : Bool, (b != b) = false := fun b => by cases b <;> rfl
    have hdi : ∀ i : Int, (i != i) = false := fun i => by simp
    have hdt0 : (!((scT x y cs) == (scT x y cs))) = false := by simp
    clear hat
    go_enter Try.func4, Try.ntmps4
    go_wp2_with fail
    generalize w.alloc (.cells #[.int .i64 x, .int .i64 y, .slice a cs.length cap] 24) = w0 at *
    refine (HSZ.out _).mono ?_
    rintro e w1 ⟨m, rfl, hm, hb1⟩
    have hm0 : ¬ m < 0 := by omega
    have hB1 := hb.trans (hb1.mono hb.size)
    have hG1 := (hb1.block _ (block_lt HG.out)).trans HG.out
    clear hb hb1 HG hm
    have f0 := cell_of_block hG1 0
    have f1 := cell_of_block hG1 1
    have f2 := cell_of_block hG1 2
    simp at f0 f1 f2
    have HG1 := Lib.hid hG1
    clear hG1
    go_wp2_with fail
    refine (HTP.out w1 (HAT.out.later rfl hB1)).mono ?_
    rintro e w2 ⟨v2, rfl, hR2, hb2⟩
    obtain ⟨a2, c2, hv⟩ := hR2.shape
    subst hv
    have hB2 := hB1.trans (hb2.mono hB1.size)
    have hG2 := (hb2.block _ (block_lt HG1.out)).trans HG1.out
    have hA2 := hR2.at
    clear hb2 hB1 HG1 f0 f1 f2 hR2
    have HG2 := Lib.hid hG2
    clear hG2
    go_wp2_with fail
    refine (HS.out a2 _ c2 w2 rfl hA2).mono ?_
    rintro e w3 ⟨rfl, hb3⟩
    have hB3 := hB2.trans (hb3.mono hB2.size)
    have hG3 := (hb3.block _ (block_lt HG2.out)).trans HG2.out
    clear hb3 hB2 HG2 hA2
    have f0 := cell_of_block hG3 0
    have f1 := cell_of_block hG3 1
    have f2 := cell_of_block hG3 2
    simp at f0 f1 f2
    have HG3 := Lib.hid hG3
    clear hG3
    go_wp2_with fail
    refine (HTP.out w3 (HAT.out.later rfl hB3)).mono ?_
    rintro e w4 ⟨v4, rfl, hR4, hb4⟩
    obtain ⟨a4, c4, hv⟩ := hR4.shape
    subst hv
    have hB4 := hB3.trans (hb4.mono hB3.size)
    have hG4 := (hb4.block _ (block_lt HG3.out)).trans HG3.out
    clear hb4 hB3 HG3 f0 f1 f2
    go_upto_region 7 with fail
    have hbx : Below w4.heap.size w4 (w4.alloc (.cells #[.int .i64 x, .int .i64 y, .slice a4 cs.length c4] 30)) := (Below.refl _ _).alloc (Nat.le_refl _) _
    have hX5 := heap_alloc_new w4 (.cells #[.int .i64 x, .int .i64 y, .slice a4 cs.length c4] 30)
    have hB5 := hB4.trans (hbx.mono hB4.size)
    have hG5 := (hbx.block _ (block_lt hG4)).trans hG4
    have hA5 := (hR4.below hbx).at
    clear hB4 hG4 hR4 hbx
    generalize w4.alloc (.cells #[.int .i64 x, .int .i64 y, .slice a4 cs.length c4] 30) = w5 at *
    generalize w4.heap.size = X at *
    have g0 := cell_of_block hX5 0
    have g1 := cell_of_block hX5 1
    have g2 := cell_of_block hX5 2
    simp at g0 g1 g2
    have HG5 := Lib.hid hG5
    have HX5 := Lib.hid hX5
    clear hG5 hX5
    go_wp2_with fail
    refine (HI.out a4 _ c4 w5 rfl hA5).mono ?_
    rintro e w6 ⟨rfl, hb6⟩
    have hB6 := hB5.trans (hb6.mono hB5.size)
    have hG6 := (hb6.block _ (block_lt HG5.out)).trans HG5.out
    have hX6 := (hb6.block _ (block_lt HX5.out)).trans HX5.out
    have hA6 := hA5.later rfl hb6
    clear hb6 hB5 HG5 HX5 hA5 g0 g1 g2
    have f0 := cell_of_block hG6 0
    have f1 := cell_of_block hG6 1
    have f2 := cell_of_block hG6 2
    have g0 := cell_of_block hX6 0
    have g1 := cell_of_block hX6 1
    have g2 := cell_of_block hX6 2
    simp at f0 f1 f2 g0 g1 g2
    have HX6 := Lib.hid hX6
    have HA6 := Lib.hid hA6
    have HB6 := Lib.hid hB6
    clear hG6 hX6 hA6 hB6
    go_wp2_with fail
    go_region_law (first
      | (go_simp; go_at_call 7; refine (HTP.out _ (HAT.out.later rfl (ofDrewB HB6.out))).mono ?_; rintro e w7 ⟨v7, rfl, hR7, hb7⟩;
         obtain ⟨a7, c7, hv7⟩ := hR7.shape; subst hv7; have HX7 := Lib.hid ((hb7.block _ (block_lt HX6.out)).trans HX6.out);
         have y0 := cell_of_block HX7.out 0; have y1 := cell_of_block HX7.out 1; have y2 := cell_of_block HX7.out 2; simp at y0 y1 y2)
      | (go_simp; go_at_call 10; refine (HE.out a4 a7 _ _ c4 c7 w7 rfl rfl (HA6.out.later rfl (ofDrewC hb7)) hR7.at).mono ?_; rintro e w8 ⟨rfl, hb8⟩))
    all_goals
      have hB8 := (HB6.out.trans ((ofDrewC hb7).mono HB6.out.size)).trans (hb8.mono (Nat.le_trans HB6.out.size (ofDrewC hb7).size))
      go_wp2_with fail
      go_ret
      exact ⟨rfl, hB8⟩
  · have HSZ := Lib.hid (fun w => szPuzzle_no x y a cs.length cap w (by omega) hc)
    go_enter Try.func4, Try.ntmps4
    go_wp2_with fail
    refine (HSZ.out _).mono ?_
    rintro e w1 ⟨rfl, hb1⟩
    have hB1 := hb.trans (hb1.mono hb.size)
    clear hb hb1
    go_wp2_with fail
    go_ret
    exact ⟨rfl, hB1⟩
end Go.Proofs.Ythlbplmghjaeoaa
