/- The law FnExactAddClue holds at every argument. -/
import Derived.Test.YthlbplmghjaeoaaB4
import Derived.Test.YthlbplmghjaeoaaA9
import Derived.Test.YthlbplmghjaeoaaAD
import Derived.Deep.DeepCutAuto
import Derived.Outline
namespace Go.Proofs.Ythlbplmghjaeoaa
open Go.RowKit

set_option maxRecDepth 100000 in
set_option maxHeartbeats 4000000 in
theorem law_AddClue (x y : Int) (cs : List Clu) (a : Option Addr) (cap : Nat) (c : Clu) (w : World) (hat : At w a (flatC cs)) (hc : cs.length ≤ 9223372036854775807) :
    Calls Try.prog 3 #[.agg #[.int .i64 x, .int .i64 y, .slice a cs.length cap], .agg #[.int .i64 c.k, .int .i64 c.a, .int .i64 c.b]] w fun e w' => e = .returned (.bool true) ∧ Below w.heap.size w w' := by
  have hb : Below w.heap.size w ((w.alloc (.cells #[.int .i64 x, .int .i64 y, .slice a cs.length cap] 24)).alloc (.cells #[.int .i64 c.k, .int .i64 c.a, .int .i64 c.b] 26)) := ((Below.refl _ _).alloc (Nat.le_refl _) _).alloc (by simp) _
  by_cases hl : cs.length ≤ 1048576
  case neg =>
    have HSZ := Lib.hid (fun w => szPuzzle_no x y a cs.length cap w (by omega) hc)
    go_enter Try.func3, Try.ntmps3
    go_wp2_with fail
    refine (HSZ.out _).mono ?_
    rintro e w1 ⟨rfl, hb1⟩
    have hB1 := hb.trans (hb1.mono hb.size)
    clear hb hb1
    go_wp2_with fail
    go_ret
    exact ⟨rfl, hB1⟩
  obtain ⟨X, Y, R, D, hD, hs, hi⟩ := core_AddClue x y c cs hl
  have HS := Lib.hid hs
  have HI := Lib.hid hi
  have HSZ := Lib.hid (fun w => szPuzzle_yes x y a cs.length cap w hl)
  have HTP := Lib.hid (fun w h => toPuzzle_any x y cs a cap w h hl)
  have HE := Lib.hid (fun a' b' n' m' c' d' w hn hm h1 h2 => eqPuzzle_same x y cs a' b' n' m' c' d' w hn hm h1 h2 (by omega))
  have HED := Lib.hid (fun a' b' n' m' c' d' w hn hm h1 h2 => eqPuzzle_same X Y D a' b' n' m' c' d' w hn hm h1 h2 (by omega))
  have HMX := Lib.hid (fun B' a' n' c' w hn h => markPuzzle_own x y B' a' cs n' c' w hn h (by omega))
  have HMG := Lib.hid (fun B' a' n' c' w hn h => markPuzzle_own X Y B' a' D n' c' w hn h (by omega))
  have HHG := Lib.hid (fun a' c' w h => heldPuzzle_seq X Y a' D.length c' w h (by omega))
  have hdr : ∀ b : Bool, (b != b) = false := fun b => by cases b <;> rfl
  have hdi : ∀ n : Int, (n != n) = false := fun n => by simp
  have hq1 : ¬ (1 + 3 * (cs.length : Int) < 0) := by omega
  have hq2 : ¬ (1 + 3 * (D.length : Int) < 0) := by omega
  have HAT := Lib.hid hat
  clear hs hi hat
  have hG := blk0 w (.cells #[.int .i64 x, .int .i64 y, .slice a cs.length cap] 24) (.cells #[.int .i64 c.k, .int .i64 c.a, .int .i64 c.b] 26)
  have hC := blk1 w (.cells #[.int .i64 x, .int .i64 y, .slice a cs.length cap] 24) (.cells #[.int .i64 c.k, .int .i64 c.a, .int .i64 c.b] 26)
  have HTC := Lib.hid (fun w => toClue_any c w)
  unfold valC at HS HI HTC
  go_enter Try.func3, Try.ntmps3
  go_wp2_with fail
  generalize (w.alloc (.cells #[.int .i64 x, .int .i64 y, .slice a cs.length cap] 24)).alloc (.cells #[.int .i64 c.k, .int .i64 c.a, .int .i64 c.b] 26) = w0 at *
  have KG0 := Lib.hid hG
  have KC0 := Lib.hid hC
  have B0 := Lib.hid hb
  clear hG hC hb
  refine (HSZ.out _).mono ?_
  rintro e w1 ⟨m, rfl, hm, hb1⟩
  have hm0 : ¬ m < 0 := by omega
  clear hm
  have KG1 := Lib.hid ((hb1.block _ (block_lt KG0.out)).trans KG0.out)
  have KC1 := Lib.hid ((hb1.block _ (block_lt KC0.out)).trans KC0.out)
  have B1 := Lib.hid (B0.out.trans (hb1.mono B0.out.size))
  clear hb1 KG0 KC0 B0
  go_upto_region 5 with fail
  refine region_cut (M := fun a0 a' w' => ∃ (u22 u23 u24 u25 u26 u21 u27 u28 : Value) (aM : Option Addr) (cM NM : Nat), a' = ⟨((((((((((a0.tmps.setIfInBounds 22 u22).setIfInBounds 23 u23).setIfInBounds 24 u24).setIfInBounds 25 u25).setIfInBounds 26 u26).setIfInBounds 21 u21).setIfInBounds 27 u27).setIfInBounds 28 u28).setIfInBounds 6 (.pointer (some ⟨NM, 0, none⟩))).setIfInBounds 7 (.bool R)), a0.defers⟩ ∧ w1.heap.size ≤ NM ∧ Below w1.heap.size w1 w' ∧ w'.heap[NM]? = some (.cells #[.int .i64 X, .int .i64 Y, .slice aM D.length cM] 30 (0, 0)) ∧ RowC w' w1.heap.size (.slice aM D.length cM) D) ?_ ?_
  ·
    have hS0 : (fun (w' : World) => w'.rangeAt w.heap.size 0 [.int .i64 x, .int .i64 y, .slice a cs.length cap] ∧ w'.rangeAt (w.heap.size + 1) 0 [.int .i64 c.k, .int .i64 c.a, .int .i64 c.b]) w1 := ⟨range3 (cell_of_block KG1.out 0) (cell_of_block KG1.out 1) (cell_of_block KG1.out 2), range3 (cell_of_block KC1.out 0) (cell_of_block KC1.out 1) (cell_of_block KC1.out 2)⟩
    have hlP := block_lt KG1.out
    have hlC := block_lt KC1.out
    refine wp_region_held_drew (S := fun (w' : World) => w'.rangeAt w.heap.size 0 [.int .i64 x, .int .i64 y, .slice a cs.length cap] ∧ w'.rangeAt (w.heap.size + 1) 0 [.int .i64 c.k, .int .i64 c.a, .int .i64 c.b]) (by kernel_rfl) hS0 (fun hH => ?_)
    refine wpAnyH_take (i := 0) (v := .agg #[.int .i64 x, .int .i64 y, .slice a cs.length cap]) rfl (by kernel_rfl) (by kernel_rfl) (by kernel_rfl) (fun _ _ _ h => h) (yieldsIf_load_mid (by rfl) 24 _ rfl (w.heap.size) 0 rfl [.int .i64 x, .int .i64 y, .slice a cs.length cap] _ (fun _ h => h.1) Try.underlying24 rfl infPL) hH ?_
    simp only [Act.put, List.setIfInBounds_toArray, List.set_cons_zero, List.set_cons_succ]
    refine wpAnyH_take (i := 2) (v := .agg #[.int .i64 c.k, .int .i64 c.a, .int .i64 c.b]) rfl (by kernel_rfl) (by kernel_rfl) (by kernel_rfl) (fun _ _ _ h => h) (yieldsIf_load_mid (by rfl) 26 _ rfl (w.heap.size + 1) 0 rfl [.int .i64 c.k, .int .i64 c.a, .int .i64 c.b] _ (fun _ h => h.2) Try.underlying26 rfl infCL) hH ?_
    simp only [Act.put, List.setIfInBounds_toArray, List.set_cons_zero, List.set_cons_succ]
    refine wpAnyH_ready (rs := [1, 8]) (by kernel_rfl) (by simp) ?_
    refine AllReadyH.cons rfl (fun K hK => ?_) (AllReadyH.cons rfl (fun K hK => ?_) AllReadyH.nil)
    · go_simp
      refine (HTP.out _ (HAT.out.later rfl (B1.out.trans (((Below.refl w1.heap.size w1).drew).mono B1.out.size)))).mono ?_
      rintro e w20 ⟨vS, rfl, hRS, hbS⟩
      obtain ⟨aS, cS, hv⟩ := hRS.shape
      subst hv
      have hbc0 := ((Below.refl w1.heap.size w1).drew).trans (hbS.mono ((Below.refl w1.heap.size w1).drew).size)
      go_wp2_with fail
      refine hK.out _ _ (And.intro (rgA_later hS0.1 hbc0) (rgA_later hS0.2 hbc0)) (fun hH => ?_)
      clear hK K
      refine wpAnyH_ready (rs := [3, 8]) (by kernel_rfl) (by simp) ?_
      refine AllReadyH.cons rfl (fun K hK => ?_) (AllReadyH.cons rfl (fun K hK => ?_) AllReadyH.nil)
      · go_simp
        refine (HTC.out _).mono ?_
        rintro e w21 ⟨rfl, hbS⟩
        have hbc1 := (hbc0).trans (hbS.mono (hbc0).size)
        have hRS := hRS.below hbS
        go_wp2_with fail
        refine hK.out _ _ (And.intro (rgA_later hS0.1 hbc1) (rgA_later hS0.2 hbc1)) (fun hH => ?_)
        clear hK K
        refine wpAnyH_ready (rs := [4, 8]) (by kernel_rfl) (by simp) ?_
        refine AllReadyH.cons rfl (fun K hK => ?_) (AllReadyH.cons rfl (fun K hK => ?_) AllReadyH.nil)
        · go_simp
          refine (HS.out aS _ cS _ rfl hRS.cap.1 hRS.cap.2 hRS.at).mono ?_
          rintro e w22 ⟨vR, rfl, hRE0, hbS⟩
          obtain ⟨aR, cR, hv⟩ := hRE0.shape
          subst hv
          have hRE0 := hRE0.mono (hbc1).size
          have hbc2 := (hbc1).trans (hbS.mono (hbc1).size)
          go_wp2_with fail
          refine hK.out _ _ (And.intro (rgA_later hS0.1 hbc2) (rgA_later hS0.2 hbc2)) (fun hH => ?_)
          clear hK K
          refine wpAnyH_take (i := 5) (v := .tuple #[.agg #[.int .i64 X, .int .i64 Y, .slice aR D.length cR], .bool R]) rfl (by kernel_rfl) (by kernel_rfl) (by kernel_rfl) (fun _ _ _ h => h) (Or.inl ⟨by rfl, fun w' _ => by unfold execOp; go_simp⟩) hH ?_
          simp only [Act.put, List.setIfInBounds_toArray, List.set_cons_zero, List.set_cons_succ]
          refine wpAnyH_take (i := 6) (v := .agg #[.int .i64 X, .int .i64 Y, .slice aR D.length cR]) rfl (by kernel_rfl) (by kernel_rfl) (by kernel_rfl) (fun _ _ _ h => h) (Or.inl ⟨by rfl, fun w' _ => by unfold execOp; go_simp⟩) hH ?_
          simp only [Act.put, List.setIfInBounds_toArray, List.set_cons_zero, List.set_cons_succ]
          refine wpAnyH_take (i := 7) (v := .bool R) rfl (by kernel_rfl) (by kernel_rfl) (by kernel_rfl) (fun _ _ _ h => h) (Or.inl ⟨by rfl, fun w' _ => by unfold execOp; go_simp⟩) hH ?_
          simp only [Act.put, List.setIfInBounds_toArray, List.set_cons_zero, List.set_cons_succ]
          refine wpAnyH_ready (rs := [8]) (by kernel_rfl) (by simp) ?_
          refine AllReadyH.cons rfl (fun K hK => ?_) AllReadyH.nil
          go_simp
          have hV0 : ((w22).alloc (.cells #[.int .i64 0, .int .i64 0, .slice none 0 0] 30)).heap[w22.heap.size]? = some (.cells #[.int .i64 0, .int .i64 0, .slice none 0 0] 30) := heap_alloc_new (w22) (.cells #[.int .i64 0, .int .i64 0, .slice none 0 0] 30)
          have hA0 : Below (w22).heap.size (w22) ((w22).alloc (.cells #[.int .i64 0, .int .i64 0, .slice none 0 0] 30)) := (Below.refl _ _).alloc (Nat.le_refl _) _
          have hbA3 := (hbc2).trans (hA0.mono (hbc2).size)
          have hgeV : w1.heap.size ≤ w22.heap.size := (hbc2).size
          have hSA := (And.intro (rgA_later hS0.1 hbA3) (rgA_later hS0.2 hbA3) : (fun (w' : World) => w'.rangeAt w.heap.size 0 [.int .i64 x, .int .i64 y, .slice a cs.length cap] ∧ w'.rangeAt (w.heap.size + 1) 0 [.int .i64 c.k, .int .i64 c.a, .int .i64 c.b]) ((w22).alloc (.cells #[.int .i64 0, .int .i64 0, .slice none 0 0] 30)))
          refine hK.out _ _ hSA (fun hH => ?_)
          clear hK K
          refine wpAnyH_ready (rs := [9]) (by kernel_rfl) (by simp) ?_
          refine AllReadyH.cons rfl (fun K hK => ?_) AllReadyH.nil
          have hVE : ((w22).alloc (.cells #[.int .i64 X, .int .i64 Y, .slice aR D.length cR] 30)).heap[w22.heap.size]? = some (.cells #[.int .i64 X, .int .i64 Y, .slice aR D.length cR] 30) := heap_alloc_new (w22) (.cells #[.int .i64 X, .int .i64 Y, .slice aR D.length cR] 30)
          have hA1 : Below (w22).heap.size (w22) ((w22).alloc (.cells #[.int .i64 X, .int .i64 Y, .slice aR D.length cR] 30)) := (Below.refl _ _).alloc (Nat.le_refl _) _
          have hbE := (hbc2).trans (hA1.mono (hbc2).size)
          have hRE := hRE0.below hA1
          go_simp
          refine hK.out _ _ (And.intro (rgA_later hS0.1 hbE) (rgA_later hS0.2 hbE)) (fun hH => ?_)
          clear hK K
          refine wpAnyH_ready (rs := [10]) (by kernel_rfl) (by simp) ?_
          refine AllReadyH.cons rfl (fun K hK => ?_) AllReadyH.nil
          go_simp
          refine hK.out _ _ (And.intro (rgA_later hS0.1 hbE) (rgA_later hS0.2 hbE)) (fun hH => ?_)
          clear hK K
          refine wpAnyH_done (by kernel_rfl) ?_ _
          refine ⟨.agg #[.int .i64 x, .int .i64 y, .slice a cs.length cap], .agg #[.int .i64 x, .int .i64 y, .slice aS cs.length cS], .agg #[.int .i64 c.k, .int .i64 c.a, .int .i64 c.b], .agg #[.int .i64 c.k, .int .i64 c.a, .int .i64 c.b], .tuple #[.agg #[.int .i64 X, .int .i64 Y, .slice aR D.length cR], .bool R], .tuple #[.agg #[.int .i64 X, .int .i64 Y, .slice aR D.length cR], .bool R], .agg #[.int .i64 X, .int .i64 Y, .slice aR D.length cR], .bool R, aR, cR, w22.heap.size, ?_, hgeV, hbE, hVE, hRE⟩
          first | rfl | (simp only [Act.put, List.setIfInBounds_toArray, List.set_cons_zero, List.set_cons_succ]; rfl) | skip
        · go_simp
          have hV0 : ((w21).alloc (.cells #[.int .i64 0, .int .i64 0, .slice none 0 0] 30)).heap[w21.heap.size]? = some (.cells #[.int .i64 0, .int .i64 0, .slice none 0 0] 30) := heap_alloc_new (w21) (.cells #[.int .i64 0, .int .i64 0, .slice none 0 0] 30)
          have hA0 : Below (w21).heap.size (w21) ((w21).alloc (.cells #[.int .i64 0, .int .i64 0, .slice none 0 0] 30)) := (Below.refl _ _).alloc (Nat.le_refl _) _
          have hbA2 := (hbc1).trans (hA0.mono (hbc1).size)
          have hgeV : w1.heap.size ≤ w21.heap.size := (hbc1).size
          have hSA := (And.intro (rgA_later hS0.1 hbA2) (rgA_later hS0.2 hbA2) : (fun (w' : World) => w'.rangeAt w.heap.size 0 [.int .i64 x, .int .i64 y, .slice a cs.length cap] ∧ w'.rangeAt (w.heap.size + 1) 0 [.int .i64 c.k, .int .i64 c.a, .int .i64 c.b]) ((w21).alloc (.cells #[.int .i64 0, .int .i64 0, .slice none 0 0] 30)))
          refine hK.out _ _ hSA (fun hH => ?_)
          clear hK K
          have hRS := hRS.later2 hA0
          refine wpAnyH_ready (rs := [4]) (by kernel_rfl) (by simp) ?_
          refine AllReadyH.cons rfl (fun K hK => ?_) AllReadyH.nil
          go_simp
          refine (HS.out aS _ cS _ rfl hRS.cap.1 hRS.cap.2 hRS.at).mono ?_
          rintro e w23 ⟨vR, rfl, hRE0, hbS⟩
          obtain ⟨aR, cR, hv⟩ := hRE0.shape
          subst hv
          have hRE0 := hRE0.mono (hbA2).size
          have hbc3 := (hbA2).trans (hbS.mono (hbA2).size)
          have hV0 := (hbS.block _ (block_lt hV0)).trans hV0
          go_wp2_with fail
          refine hK.out _ _ (And.intro (rgA_later hS0.1 hbc3) (rgA_later hS0.2 hbc3)) (fun hH => ?_)
          clear hK K
          refine wpAnyH_take (i := 5) (v := .tuple #[.agg #[.int .i64 X, .int .i64 Y, .slice aR D.length cR], .bool R]) rfl (by kernel_rfl) (by kernel_rfl) (by kernel_rfl) (fun _ _ _ h => h) (Or.inl ⟨by rfl, fun w' _ => by unfold execOp; go_simp⟩) hH ?_
          simp only [Act.put, List.setIfInBounds_toArray, List.set_cons_zero, List.set_cons_succ]
          refine wpAnyH_take (i := 6) (v := .agg #[.int .i64 X, .int .i64 Y, .slice aR D.length cR]) rfl (by kernel_rfl) (by kernel_rfl) (by kernel_rfl) (fun _ _ _ h => h) (Or.inl ⟨by rfl, fun w' _ => by unfold execOp; go_simp⟩) hH ?_
          simp only [Act.put, List.setIfInBounds_toArray, List.set_cons_zero, List.set_cons_succ]
          refine wpAnyH_take (i := 7) (v := .bool R) rfl (by kernel_rfl) (by kernel_rfl) (by kernel_rfl) (fun _ _ _ h => h) (Or.inl ⟨by rfl, fun w' _ => by unfold execOp; go_simp⟩) hH ?_
          simp only [Act.put, List.setIfInBounds_toArray, List.set_cons_zero, List.set_cons_succ]
          refine wpAnyH_ready (rs := [9]) (by kernel_rfl) (by simp) ?_
          refine AllReadyH.cons rfl (fun K hK => ?_) AllReadyH.nil
          have z0 := cell_of_block hV0 0
          have z1 := cell_of_block hV0 1
          have z2 := cell_of_block hV0 2
          have zf := frozen_of_block hV0
          simp at z0 z1 z2
          obtain ⟨hVE, hbV⟩ := puzzle_stored (B := w1.heap.size) hV0 hgeV (.int .i64 X) (.int .i64 Y) (.slice aR D.length cR)
          have hRE := hRE0.put3 (x := .int .i64 X) (y := .int .i64 Y) (z := .slice aR D.length cR) hV0
          have hbE := (hbc3).trans hbV
          go_simp
          refine hK.out _ _ (And.intro (rgA_later hS0.1 hbE) (rgA_later hS0.2 hbE)) (fun hH => ?_)
          clear hK K
          refine wpAnyH_ready (rs := [10]) (by kernel_rfl) (by simp) ?_
          refine AllReadyH.cons rfl (fun K hK => ?_) AllReadyH.nil
          go_simp
          refine hK.out _ _ (And.intro (rgA_later hS0.1 hbE) (rgA_later hS0.2 hbE)) (fun hH => ?_)
          clear hK K
          refine wpAnyH_done (by kernel_rfl) ?_ _
          refine ⟨.agg #[.int .i64 x, .int .i64 y, .slice a cs.length cap], .agg #[.int .i64 x, .int .i64 y, .slice aS cs.length cS], .agg #[.int .i64 c.k, .int .i64 c.a, .int .i64 c.b], .agg #[.int .i64 c.k, .int .i64 c.a, .int .i64 c.b], .tuple #[.agg #[.int .i64 X, .int .i64 Y, .slice aR D.length cR], .bool R], .tuple #[.agg #[.int .i64 X, .int .i64 Y, .slice aR D.length cR], .bool R], .agg #[.int .i64 X, .int .i64 Y, .slice aR D.length cR], .bool R, aR, cR, w21.heap.size, ?_, hgeV, hbE, hVE, hRE⟩
          first | rfl | (simp only [Act.put, List.setIfInBounds_toArray, List.set_cons_zero, List.set_cons_succ]; rfl) | skip
      · go_simp
        have hV0 : ((w20).alloc (.cells #[.int .i64 0, .int .i64 0, .slice none 0 0] 30)).heap[w20.heap.size]? = some (.cells #[.int .i64 0, .int .i64 0, .slice none 0 0] 30) := heap_alloc_new (w20) (.cells #[.int .i64 0, .int .i64 0, .slice none 0 0] 30)
        have hA0 : Below (w20).heap.size (w20) ((w20).alloc (.cells #[.int .i64 0, .int .i64 0, .slice none 0 0] 30)) := (Below.refl _ _).alloc (Nat.le_refl _) _
        have hbA1 := (hbc0).trans (hA0.mono (hbc0).size)
        have hgeV : w1.heap.size ≤ w20.heap.size := (hbc0).size
        have hSA := (And.intro (rgA_later hS0.1 hbA1) (rgA_later hS0.2 hbA1) : (fun (w' : World) => w'.rangeAt w.heap.size 0 [.int .i64 x, .int .i64 y, .slice a cs.length cap] ∧ w'.rangeAt (w.heap.size + 1) 0 [.int .i64 c.k, .int .i64 c.a, .int .i64 c.b]) ((w20).alloc (.cells #[.int .i64 0, .int .i64 0, .slice none 0 0] 30)))
        refine hK.out _ _ hSA (fun hH => ?_)
        clear hK K
        have hRS := hRS.later2 hA0
        refine wpAnyH_ready (rs := [3]) (by kernel_rfl) (by simp) ?_
        refine AllReadyH.cons rfl (fun K hK => ?_) AllReadyH.nil
        go_simp
        refine (HTC.out _).mono ?_
        rintro e w22 ⟨rfl, hbS⟩
        have hbc2 := (hbA1).trans (hbS.mono (hbA1).size)
        have hV0 := (hbS.block _ (block_lt hV0)).trans hV0
        have hRS := hRS.below hbS
        go_wp2_with fail
        refine hK.out _ _ (And.intro (rgA_later hS0.1 hbc2) (rgA_later hS0.2 hbc2)) (fun hH => ?_)
        clear hK K
        refine wpAnyH_ready (rs := [4]) (by kernel_rfl) (by simp) ?_
        refine AllReadyH.cons rfl (fun K hK => ?_) AllReadyH.nil
        go_simp
        refine (HS.out aS _ cS _ rfl hRS.cap.1 hRS.cap.2 hRS.at).mono ?_
        rintro e w23 ⟨vR, rfl, hRE0, hbS⟩
        obtain ⟨aR, cR, hv⟩ := hRE0.shape
        subst hv
        have hRE0 := hRE0.mono (hbc2).size
        have hbc3 := (hbc2).trans (hbS.mono (hbc2).size)
        have hV0 := (hbS.block _ (block_lt hV0)).trans hV0
        go_wp2_with fail
        refine hK.out _ _ (And.intro (rgA_later hS0.1 hbc3) (rgA_later hS0.2 hbc3)) (fun hH => ?_)
        clear hK K
        refine wpAnyH_take (i := 5) (v := .tuple #[.agg #[.int .i64 X, .int .i64 Y, .slice aR D.length cR], .bool R]) rfl (by kernel_rfl) (by kernel_rfl) (by kernel_rfl) (fun _ _ _ h => h) (Or.inl ⟨by rfl, fun w' _ => by unfold execOp; go_simp⟩) hH ?_
        simp only [Act.put, List.setIfInBounds_toArray, List.set_cons_zero, List.set_cons_succ]
        refine wpAnyH_take (i := 6) (v := .agg #[.int .i64 X, .int .i64 Y, .slice aR D.length cR]) rfl (by kernel_rfl) (by kernel_rfl) (by kernel_rfl) (fun _ _ _ h => h) (Or.inl ⟨by rfl, fun w' _ => by unfold execOp; go_simp⟩) hH ?_
        simp only [Act.put, List.setIfInBounds_toArray, List.set_cons_zero, List.set_cons_succ]
        refine wpAnyH_take (i := 7) (v := .bool R) rfl (by kernel_rfl) (by kernel_rfl) (by kernel_rfl) (fun _ _ _ h => h) (Or.inl ⟨by rfl, fun w' _ => by unfold execOp; go_simp⟩) hH ?_
        simp only [Act.put, List.setIfInBounds_toArray, List.set_cons_zero, List.set_cons_succ]
        refine wpAnyH_ready (rs := [9]) (by kernel_rfl) (by simp) ?_
        refine AllReadyH.cons rfl (fun K hK => ?_) AllReadyH.nil
        have z0 := cell_of_block hV0 0
        have z1 := cell_of_block hV0 1
        have z2 := cell_of_block hV0 2
        have zf := frozen_of_block hV0
        simp at z0 z1 z2
        obtain ⟨hVE, hbV⟩ := puzzle_stored (B := w1.heap.size) hV0 hgeV (.int .i64 X) (.int .i64 Y) (.slice aR D.length cR)
        have hRE := hRE0.put3 (x := .int .i64 X) (y := .int .i64 Y) (z := .slice aR D.length cR) hV0
        have hbE := (hbc3).trans hbV
        go_simp
        refine hK.out _ _ (And.intro (rgA_later hS0.1 hbE) (rgA_later hS0.2 hbE)) (fun hH => ?_)
        clear hK K
        refine wpAnyH_ready (rs := [10]) (by kernel_rfl) (by simp) ?_
        refine AllReadyH.cons rfl (fun K hK => ?_) AllReadyH.nil
        go_simp
        refine hK.out _ _ (And.intro (rgA_later hS0.1 hbE) (rgA_later hS0.2 hbE)) (fun hH => ?_)
        clear hK K
        refine wpAnyH_done (by kernel_rfl) ?_ _
        refine ⟨.agg #[.int .i64 x, .int .i64 y, .slice a cs.length cap], .agg #[.int .i64 x, .int .i64 y, .slice aS cs.length cS], .agg #[.int .i64 c.k, .int .i64 c.a, .int .i64 c.b], .agg #[.int .i64 c.k, .int .i64 c.a, .int .i64 c.b], .tuple #[.agg #[.int .i64 X, .int .i64 Y, .slice aR D.length cR], .bool R], .tuple #[.agg #[.int .i64 X, .int .i64 Y, .slice aR D.length cR], .bool R], .agg #[.int .i64 X, .int .i64 Y, .slice aR D.length cR], .bool R, aR, cR, w20.heap.size, ?_, hgeV, hbE, hVE, hRE⟩
        first | rfl | (simp only [Act.put, List.setIfInBounds_toArray, List.set_cons_zero, List.set_cons_succ]; rfl) | skip
    · go_simp
      have hV0 : ((w1.drew).alloc (.cells #[.int .i64 0, .int .i64 0, .slice none 0 0] 30)).heap[w1.heap.size]? = some (.cells #[.int .i64 0, .int .i64 0, .slice none 0 0] 30) := heap_alloc_new (w1.drew) (.cells #[.int .i64 0, .int .i64 0, .slice none 0 0] 30)
      have hA0 : Below (w1.drew).heap.size (w1.drew) ((w1.drew).alloc (.cells #[.int .i64 0, .int .i64 0, .slice none 0 0] 30)) := (Below.refl _ _).alloc (Nat.le_refl _) _
      have hbA0 := ((Below.refl w1.heap.size w1).drew).trans (hA0.mono ((Below.refl w1.heap.size w1).drew).size)
      have hgeV : w1.heap.size ≤ w1.heap.size := ((Below.refl w1.heap.size w1).drew).size
      have hSA := (And.intro (rgA_later hS0.1 hbA0) (rgA_later hS0.2 hbA0) : (fun (w' : World) => w'.rangeAt w.heap.size 0 [.int .i64 x, .int .i64 y, .slice a cs.length cap] ∧ w'.rangeAt (w.heap.size + 1) 0 [.int .i64 c.k, .int .i64 c.a, .int .i64 c.b]) ((w1.drew).alloc (.cells #[.int .i64 0, .int .i64 0, .slice none 0 0] 30)))
      refine hK.out _ _ hSA (fun hH => ?_)
      clear hK K
      refine wpAnyH_ready (rs := [1]) (by kernel_rfl) (by simp) ?_
      refine AllReadyH.cons rfl (fun K hK => ?_) AllReadyH.nil
      go_simp
      refine (HTP.out _ (HAT.out.later rfl (B1.out.trans ((hbA0).mono B1.out.size)))).mono ?_
      rintro e w21 ⟨vS, rfl, hRS, hbS⟩
      obtain ⟨aS, cS, hv⟩ := hRS.shape
      subst hv
      have hbc1 := (hbA0).trans (hbS.mono (hbA0).size)
      have hV0 := (hbS.block _ (block_lt hV0)).trans hV0
      go_wp2_with fail
      refine hK.out _ _ (And.intro (rgA_later hS0.1 hbc1) (rgA_later hS0.2 hbc1)) (fun hH => ?_)
      clear hK K
      refine wpAnyH_ready (rs := [3]) (by kernel_rfl) (by simp) ?_
      refine AllReadyH.cons rfl (fun K hK => ?_) AllReadyH.nil
      go_simp
      refine (HTC.out _).mono ?_
      rintro e w22 ⟨rfl, hbS⟩
      have hbc2 := (hbc1).trans (hbS.mono (hbc1).size)
      have hV0 := (hbS.block _ (block_lt hV0)).trans hV0
      have hRS := hRS.below hbS
      go_wp2_with fail
      refine hK.out _ _ (And.intro (rgA_later hS0.1 hbc2) (rgA_later hS0.2 hbc2)) (fun hH => ?_)
      clear hK K
      refine wpAnyH_ready (rs := [4]) (by kernel_rfl) (by simp) ?_
      refine AllReadyH.cons rfl (fun K hK => ?_) AllReadyH.nil
      go_simp
      refine (HS.out aS _ cS _ rfl hRS.cap.1 hRS.cap.2 hRS.at).mono ?_
      rintro e w23 ⟨vR, rfl, hRE0, hbS⟩
      obtain ⟨aR, cR, hv⟩ := hRE0.shape
      subst hv
      have hRE0 := hRE0.mono (hbc2).size
      have hbc3 := (hbc2).trans (hbS.mono (hbc2).size)
      have hV0 := (hbS.block _ (block_lt hV0)).trans hV0
      go_wp2_with fail
      refine hK.out _ _ (And.intro (rgA_later hS0.1 hbc3) (rgA_later hS0.2 hbc3)) (fun hH => ?_)
      clear hK K
      refine wpAnyH_take (i := 5) (v := .tuple #[.agg #[.int .i64 X, .int .i64 Y, .slice aR D.length cR], .bool R]) rfl (by kernel_rfl) (by kernel_rfl) (by kernel_rfl) (fun _ _ _ h => h) (Or.inl ⟨by rfl, fun w' _ => by unfold execOp; go_simp⟩) hH ?_
      simp only [Act.put, List.setIfInBounds_toArray, List.set_cons_zero, List.set_cons_succ]
      refine wpAnyH_take (i := 6) (v := .agg #[.int .i64 X, .int .i64 Y, .slice aR D.length cR]) rfl (by kernel_rfl) (by kernel_rfl) (by kernel_rfl) (fun _ _ _ h => h) (Or.inl ⟨by rfl, fun w' _ => by unfold execOp; go_simp⟩) hH ?_
      simp only [Act.put, List.setIfInBounds_toArray, List.set_cons_zero, List.set_cons_succ]
      refine wpAnyH_take (i := 7) (v := .bool R) rfl (by kernel_rfl) (by kernel_rfl) (by kernel_rfl) (fun _ _ _ h => h) (Or.inl ⟨by rfl, fun w' _ => by unfold execOp; go_simp⟩) hH ?_
      simp only [Act.put, List.setIfInBounds_toArray, List.set_cons_zero, List.set_cons_succ]
      refine wpAnyH_ready (rs := [9]) (by kernel_rfl) (by simp) ?_
      refine AllReadyH.cons rfl (fun K hK => ?_) AllReadyH.nil
      have z0 := cell_of_block hV0 0
      have z1 := cell_of_block hV0 1
      have z2 := cell_of_block hV0 2
      have zf := frozen_of_block hV0
      simp at z0 z1 z2
      obtain ⟨hVE, hbV⟩ := puzzle_stored (B := w1.heap.size) hV0 hgeV (.int .i64 X) (.int .i64 Y) (.slice aR D.length cR)
      have hRE := hRE0.put3 (x := .int .i64 X) (y := .int .i64 Y) (z := .slice aR D.length cR) hV0
      have hbE := (hbc3).trans hbV
      go_simp
      refine hK.out _ _ (And.intro (rgA_later hS0.1 hbE) (rgA_later hS0.2 hbE)) (fun hH => ?_)
      clear hK K
      refine wpAnyH_ready (rs := [10]) (by kernel_rfl) (by simp) ?_
      refine AllReadyH.cons rfl (fun K hK => ?_) AllReadyH.nil
      go_simp
      refine hK.out _ _ (And.intro (rgA_later hS0.1 hbE) (rgA_later hS0.2 hbE)) (fun hH => ?_)
      clear hK K
      refine wpAnyH_done (by kernel_rfl) ?_ _
      refine ⟨.agg #[.int .i64 x, .int .i64 y, .slice a cs.length cap], .agg #[.int .i64 x, .int .i64 y, .slice aS cs.length cS], .agg #[.int .i64 c.k, .int .i64 c.a, .int .i64 c.b], .agg #[.int .i64 c.k, .int .i64 c.a, .int .i64 c.b], .tuple #[.agg #[.int .i64 X, .int .i64 Y, .slice aR D.length cR], .bool R], .tuple #[.agg #[.int .i64 X, .int .i64 Y, .slice aR D.length cR], .bool R], .agg #[.int .i64 X, .int .i64 Y, .slice aR D.length cR], .bool R, aR, cR, w1.heap.size, ?_, hgeV, hbE, hVE, hRE⟩
      first | rfl | (simp only [Act.put, List.setIfInBounds_toArray, List.set_cons_zero, List.set_cons_succ]; rfl) | skip
  rintro a' w2 ⟨u22, u23, u24, u25, u26, u21, u27, u28, aM, cM, NM, rfl, hgeM, hb2, hN2, hRM⟩
  simp only [Act.put, List.setIfInBounds_toArray, List.set_cons_zero, List.set_cons_succ]
  have KG2 := Lib.hid ((hb2.block _ (block_lt KG1.out)).trans KG1.out)
  have KC2 := Lib.hid ((hb2.block _ (block_lt KC1.out)).trans KC1.out)
  have B2 := Lib.hid (B1.out.trans (hb2.mono B1.out.size))
  clear hb2 KG1 KC1 B1
  have KV2 := Lib.hid hN2
  have hltM : ∀ ad, aM = some ad → ad.block < w2.heap.size := fun ad h => (hRM.lt ad h).2
  have AM2 := Lib.hid hRM.at
  have hNMlt := block_lt hN2
  have hNw0 : w.heap.size ≤ w2.heap.size := B2.out.size
  obtain ⟨N1, hN1⟩ : ∃ q, q = w2.heap.size := ⟨_, rfl⟩
  rw [← hN1] at hltM hNMlt hNw0
  have hNS1 : N1 ≤ w2.heap.size := Nat.le_of_eq hN1
  clear hN2 hRM hN1 hgeM
  have fG0 := cell_of_block KG2.out 0
  have fG1 := cell_of_block KG2.out 1
  have fG2 := cell_of_block KG2.out 2
  have fC0 := cell_of_block KC2.out 0
  have fC1 := cell_of_block KC2.out 1
  have fC2 := cell_of_block KC2.out 2
  have fV0 := cell_of_block KV2.out 0
  have fV1 := cell_of_block KV2.out 1
  have fV2 := cell_of_block KV2.out 2
  simp at fG0 fG1 fG2 fC0 fC1 fC2 fV0 fV1 fV2
  go_wp2_with fail
  clear fG0 fG1 fG2 fC0 fC1 fC2 fV0 fV1 fV2
  refine (HTP.out w2 (HAT.out.later rfl B2.out)).mono ?_
  rintro e w3 ⟨vX, rfl, hRX, hb3⟩
  obtain ⟨aX, cX, hv⟩ := hRX.shape
  subst hv
  have hsz3 := hb3.size
  have KG3 := Lib.hid ((hb3.block _ (block_lt KG2.out)).trans KG2.out)
  have KC3 := Lib.hid ((hb3.block _ (block_lt KC2.out)).trans KC2.out)
  have KV3 := Lib.hid ((hb3.block _ (block_lt KV2.out)).trans KV2.out)
  have AM3 := Lib.hid (AM2.out.later rfl hb3)
  have B3 := Lib.hid (B2.out.trans (hb3.mono B2.out.size))
  clear hb3 KG2 KC2 KV2 AM2 B2
  have hgeX : ∀ ad, aX = some ad → N1 ≤ ad.block := fun ad h => Nat.le_trans hNS1 (hRX.lt ad h).1
  have hltX : ∀ ad, aX = some ad → ad.block < w3.heap.size := fun ad h => (hRX.lt ad h).2
  go_upto_region 7 with fail
  have hb4 : Below w3.heap.size w3 (w3.alloc (.cells #[.int .i64 x, .int .i64 y, .slice aX cs.length cX] 30)) := (Below.refl _ _).alloc (Nat.le_refl _) _
  have hN4 := heap_alloc_new w3 (.cells #[.int .i64 x, .int .i64 y, .slice aX cs.length cX] 30)
  have hN120 : N1 ≤ w3.heap.size := Nat.le_trans hNS1 hsz3
  have hRX4 := hRX.below hb4
  clear hRX
  generalize hw4 : w3.alloc (.cells #[.int .i64 x, .int .i64 y, .slice aX cs.length cX] 30) = w4 at *
  clear hw4
  generalize hN2 : w3.heap.size = N2 at *
  have HN2 := Lib.hid hN2
  clear hN2
  have KG4 := Lib.hid ((hb4.block _ (by rw [← HN2.out]; exact block_lt KG3.out)).trans KG3.out)
  have KC4 := Lib.hid ((hb4.block _ (by rw [← HN2.out]; exact block_lt KC3.out)).trans KC3.out)
  have KV4 := Lib.hid ((hb4.block _ (by rw [← HN2.out]; exact block_lt KV3.out)).trans KV3.out)
  have AM4 := Lib.hid (AM3.out.later HN2.out.symm hb4)
  have B4 := Lib.hid (B3.out.trans (hb4.mono (HN2.out ▸ B3.out.size)))
  clear hb4 KG3 KC3 KV3 AM3 B3
  have KX4 := Lib.hid hN4
  have RX4 := Lib.hid hRX4
  have hNS2 : N2 ≤ w4.heap.size := Nat.le_of_lt (block_lt hN4)
  clear hN4 hRX4 HN2
  go_upto_region 7 with fail
  refine region_cut (M := fun a0 a' w' => ∃ (u32 u33 u34 u35 u31 u36 u37 : Value) (aH : Option Addr) (cH NH : Nat), a' = ⟨(((((((((a0.tmps.setIfInBounds 32 u32).setIfInBounds 33 u33).setIfInBounds 34 u34).setIfInBounds 35 u35).setIfInBounds 31 u31).setIfInBounds 36 u36).setIfInBounds 37 u37).setIfInBounds 9 (.pointer (some ⟨NH, 0, none⟩))).setIfInBounds 10 (.bool R)), a0.defers⟩ ∧ w4.heap.size ≤ NH ∧ Below w4.heap.size w4 w' ∧ w'.heap[NH]? = some (.cells #[.int .i64 X, .int .i64 Y, .slice aH D.length cH] 30 (0, 0)) ∧ RowC w' w4.heap.size (.slice aH D.length cH) D) ?_ ?_
  ·
    have hS0 : (fun (w' : World) => w'.rangeAt N2 0 [.int .i64 x, .int .i64 y, .slice aX cs.length cX] ∧ w'.rangeAt (w.heap.size + 1) 0 [.int .i64 c.k, .int .i64 c.a, .int .i64 c.b]) w4 := ⟨range3 (cell_of_block KX4.out 0) (cell_of_block KX4.out 1) (cell_of_block KX4.out 2), range3 (cell_of_block KC4.out 0) (cell_of_block KC4.out 1) (cell_of_block KC4.out 2)⟩
    have hlP := block_lt KX4.out
    have hlC := block_lt KC4.out
    refine wp_region_held_drew (S := fun (w' : World) => w'.rangeAt N2 0 [.int .i64 x, .int .i64 y, .slice aX cs.length cX] ∧ w'.rangeAt (w.heap.size + 1) 0 [.int .i64 c.k, .int .i64 c.a, .int .i64 c.b]) (by kernel_rfl) hS0 (fun hH => ?_)
    refine wpAnyH_take (i := 0) (v := .agg #[.int .i64 x, .int .i64 y, .slice aX cs.length cX]) rfl (by kernel_rfl) (by kernel_rfl) (by kernel_rfl) (fun _ _ _ h => h) (yieldsIf_load_mid (by rfl) 30 _ rfl (N2) 0 rfl [.int .i64 x, .int .i64 y, .slice aX cs.length cX] _ (fun _ h => h.1) Try.underlying30 rfl infPI) hH ?_
    simp only [Act.put, List.setIfInBounds_toArray, List.set_cons_zero, List.set_cons_succ]
    refine wpAnyH_take (i := 1) (v := .agg #[.int .i64 c.k, .int .i64 c.a, .int .i64 c.b]) rfl (by kernel_rfl) (by kernel_rfl) (by kernel_rfl) (fun _ _ _ h => h) (yieldsIf_load_mid (by rfl) 26 _ rfl (w.heap.size + 1) 0 rfl [.int .i64 c.k, .int .i64 c.a, .int .i64 c.b] _ (fun _ h => h.2) Try.underlying26 rfl infCL) hH ?_
    simp only [Act.put, List.setIfInBounds_toArray, List.set_cons_zero, List.set_cons_succ]
    refine wpAnyH_ready (rs := [2, 7]) (by kernel_rfl) (by simp) ?_
    refine AllReadyH.cons rfl (fun K hK => ?_) (AllReadyH.cons rfl (fun K hK => ?_) AllReadyH.nil)
    · go_simp
      refine (HTC.out _).mono ?_
      rintro e w50 ⟨rfl, hbS⟩
      have hbc0 := ((Below.refl w4.heap.size w4).drew).trans (hbS.mono ((Below.refl w4.heap.size w4).drew).size)
      go_wp2_with fail
      refine hK.out _ _ (And.intro (rgA_later hS0.1 hbc0) (rgA_later hS0.2 hbc0)) (fun hH => ?_)
      clear hK K
      refine wpAnyH_ready (rs := [3, 7]) (by kernel_rfl) (by simp) ?_
      refine AllReadyH.cons rfl (fun K hK => ?_) (AllReadyH.cons rfl (fun K hK => ?_) AllReadyH.nil)
      · go_simp
        have hRS := RX4.out.below (hbc0)
        refine (HI.out aX _ cX _ rfl hRS.cap.1 hRS.cap.2 hRS.at).mono ?_
        rintro e w51 ⟨vR, rfl, hRE0, hbS⟩
        obtain ⟨aR, cR, hv⟩ := hRE0.shape
        subst hv
        have hRE0 := hRE0.mono (hbc0).size
        have hbc1 := (hbc0).trans (hbS.mono (hbc0).size)
        go_wp2_with fail
        refine hK.out _ _ (And.intro (rgA_later hS0.1 hbc1) (rgA_later hS0.2 hbc1)) (fun hH => ?_)
        clear hK K
        refine wpAnyH_take (i := 4) (v := .tuple #[.agg #[.int .i64 X, .int .i64 Y, .slice aR D.length cR], .bool R]) rfl (by kernel_rfl) (by kernel_rfl) (by kernel_rfl) (fun _ _ _ h => h) (Or.inl ⟨by rfl, fun w' _ => by unfold execOp; go_simp⟩) hH ?_
        simp only [Act.put, List.setIfInBounds_toArray, List.set_cons_zero, List.set_cons_succ]
        refine wpAnyH_take (i := 5) (v := .agg #[.int .i64 X, .int .i64 Y, .slice aR D.length cR]) rfl (by kernel_rfl) (by kernel_rfl) (by kernel_rfl) (fun _ _ _ h => h) (Or.inl ⟨by rfl, fun w' _ => by unfold execOp; go_simp⟩) hH ?_
        simp only [Act.put, List.setIfInBounds_toArray, List.set_cons_zero, List.set_cons_succ]
        refine wpAnyH_take (i := 6) (v := .bool R) rfl (by kernel_rfl) (by kernel_rfl) (by kernel_rfl) (fun _ _ _ h => h) (Or.inl ⟨by rfl, fun w' _ => by unfold execOp; go_simp⟩) hH ?_
        simp only [Act.put, List.setIfInBounds_toArray, List.set_cons_zero, List.set_cons_succ]
        refine wpAnyH_ready (rs := [7]) (by kernel_rfl) (by simp) ?_
        refine AllReadyH.cons rfl (fun K hK => ?_) AllReadyH.nil
        go_simp
        have hV0 : ((w51).alloc (.cells #[.int .i64 0, .int .i64 0, .slice none 0 0] 30)).heap[w51.heap.size]? = some (.cells #[.int .i64 0, .int .i64 0, .slice none 0 0] 30) := heap_alloc_new (w51) (.cells #[.int .i64 0, .int .i64 0, .slice none 0 0] 30)
        have hA0 : Below (w51).heap.size (w51) ((w51).alloc (.cells #[.int .i64 0, .int .i64 0, .slice none 0 0] 30)) := (Below.refl _ _).alloc (Nat.le_refl _) _
        have hbA2 := (hbc1).trans (hA0.mono (hbc1).size)
        have hgeV : w4.heap.size ≤ w51.heap.size := (hbc1).size
        have hSA := (And.intro (rgA_later hS0.1 hbA2) (rgA_later hS0.2 hbA2) : (fun (w' : World) => w'.rangeAt N2 0 [.int .i64 x, .int .i64 y, .slice aX cs.length cX] ∧ w'.rangeAt (w.heap.size + 1) 0 [.int .i64 c.k, .int .i64 c.a, .int .i64 c.b]) ((w51).alloc (.cells #[.int .i64 0, .int .i64 0, .slice none 0 0] 30)))
        refine hK.out _ _ hSA (fun hH => ?_)
        clear hK K
        refine wpAnyH_ready (rs := [8]) (by kernel_rfl) (by simp) ?_
        refine AllReadyH.cons rfl (fun K hK => ?_) AllReadyH.nil
        have hVE : ((w51).alloc (.cells #[.int .i64 X, .int .i64 Y, .slice aR D.length cR] 30)).heap[w51.heap.size]? = some (.cells #[.int .i64 X, .int .i64 Y, .slice aR D.length cR] 30) := heap_alloc_new (w51) (.cells #[.int .i64 X, .int .i64 Y, .slice aR D.length cR] 30)
        have hA1 : Below (w51).heap.size (w51) ((w51).alloc (.cells #[.int .i64 X, .int .i64 Y, .slice aR D.length cR] 30)) := (Below.refl _ _).alloc (Nat.le_refl _) _
        have hbE := (hbc1).trans (hA1.mono (hbc1).size)
        have hRE := hRE0.below hA1
        go_simp
        refine hK.out _ _ (And.intro (rgA_later hS0.1 hbE) (rgA_later hS0.2 hbE)) (fun hH => ?_)
        clear hK K
        refine wpAnyH_ready (rs := [9]) (by kernel_rfl) (by simp) ?_
        refine AllReadyH.cons rfl (fun K hK => ?_) AllReadyH.nil
        go_simp
        refine hK.out _ _ (And.intro (rgA_later hS0.1 hbE) (rgA_later hS0.2 hbE)) (fun hH => ?_)
        clear hK K
        refine wpAnyH_done (by kernel_rfl) ?_ _
        refine ⟨.agg #[.int .i64 x, .int .i64 y, .slice aX cs.length cX], .agg #[.int .i64 c.k, .int .i64 c.a, .int .i64 c.b], .agg #[.int .i64 c.k, .int .i64 c.a, .int .i64 c.b], .tuple #[.agg #[.int .i64 X, .int .i64 Y, .slice aR D.length cR], .bool R], .tuple #[.agg #[.int .i64 X, .int .i64 Y, .slice aR D.length cR], .bool R], .agg #[.int .i64 X, .int .i64 Y, .slice aR D.length cR], .bool R, aR, cR, w51.heap.size, ?_, hgeV, hbE, hVE, hRE⟩
        first | rfl | (simp only [Act.put, List.setIfInBounds_toArray, List.set_cons_zero, List.set_cons_succ]; rfl) | skip
      · go_simp
        have hV0 : ((w50).alloc (.cells #[.int .i64 0, .int .i64 0, .slice none 0 0] 30)).heap[w50.heap.size]? = some (.cells #[.int .i64 0, .int .i64 0, .slice none 0 0] 30) := heap_alloc_new (w50) (.cells #[.int .i64 0, .int .i64 0, .slice none 0 0] 30)
        have hA0 : Below (w50).heap.size (w50) ((w50).alloc (.cells #[.int .i64 0, .int .i64 0, .slice none 0 0] 30)) := (Below.refl _ _).alloc (Nat.le_refl _) _
        have hbA1 := (hbc0).trans (hA0.mono (hbc0).size)
        have hgeV : w4.heap.size ≤ w50.heap.size := (hbc0).size
        have hSA := (And.intro (rgA_later hS0.1 hbA1) (rgA_later hS0.2 hbA1) : (fun (w' : World) => w'.rangeAt N2 0 [.int .i64 x, .int .i64 y, .slice aX cs.length cX] ∧ w'.rangeAt (w.heap.size + 1) 0 [.int .i64 c.k, .int .i64 c.a, .int .i64 c.b]) ((w50).alloc (.cells #[.int .i64 0, .int .i64 0, .slice none 0 0] 30)))
        refine hK.out _ _ hSA (fun hH => ?_)
        clear hK K
        refine wpAnyH_ready (rs := [3]) (by kernel_rfl) (by simp) ?_
        refine AllReadyH.cons rfl (fun K hK => ?_) AllReadyH.nil
        go_simp
        have hRS := RX4.out.below (hbA1)
        refine (HI.out aX _ cX _ rfl hRS.cap.1 hRS.cap.2 hRS.at).mono ?_
        rintro e w52 ⟨vR, rfl, hRE0, hbS⟩
        obtain ⟨aR, cR, hv⟩ := hRE0.shape
        subst hv
        have hRE0 := hRE0.mono (hbA1).size
        have hbc2 := (hbA1).trans (hbS.mono (hbA1).size)
        have hV0 := (hbS.block _ (block_lt hV0)).trans hV0
        go_wp2_with fail
        refine hK.out _ _ (And.intro (rgA_later hS0.1 hbc2) (rgA_later hS0.2 hbc2)) (fun hH => ?_)
        clear hK K
        refine wpAnyH_take (i := 4) (v := .tuple #[.agg #[.int .i64 X, .int .i64 Y, .slice aR D.length cR], .bool R]) rfl (by kernel_rfl) (by kernel_rfl) (by kernel_rfl) (fun _ _ _ h => h) (Or.inl ⟨by rfl, fun w' _ => by unfold execOp; go_simp⟩) hH ?_
        simp only [Act.put, List.setIfInBounds_toArray, List.set_cons_zero, List.set_cons_succ]
        refine wpAnyH_take (i := 5) (v := .agg #[.int .i64 X, .int .i64 Y, .slice aR D.length cR]) rfl (by kernel_rfl) (by kernel_rfl) (by kernel_rfl) (fun _ _ _ h => h) (Or.inl ⟨by rfl, fun w' _ => by unfold execOp; go_simp⟩) hH ?_
        simp only [Act.put, List.setIfInBounds_toArray, List.set_cons_zero, List.set_cons_succ]
        refine wpAnyH_take (i := 6) (v := .bool R) rfl (by kernel_rfl) (by kernel_rfl) (by kernel_rfl) (fun _ _ _ h => h) (Or.inl ⟨by rfl, fun w' _ => by unfold execOp; go_simp⟩) hH ?_
        simp only [Act.put, List.setIfInBounds_toArray, List.set_cons_zero, List.set_cons_succ]
        refine wpAnyH_ready (rs := [8]) (by kernel_rfl) (by simp) ?_
        refine AllReadyH.cons rfl (fun K hK => ?_) AllReadyH.nil
        have z0 := cell_of_block hV0 0
        have z1 := cell_of_block hV0 1
        have z2 := cell_of_block hV0 2
        have zf := frozen_of_block hV0
        simp at z0 z1 z2
        obtain ⟨hVE, hbV⟩ := puzzle_stored (B := w4.heap.size) hV0 hgeV (.int .i64 X) (.int .i64 Y) (.slice aR D.length cR)
        have hRE := hRE0.put3 (x := .int .i64 X) (y := .int .i64 Y) (z := .slice aR D.length cR) hV0
        have hbE := (hbc2).trans hbV
        go_simp
        refine hK.out _ _ (And.intro (rgA_later hS0.1 hbE) (rgA_later hS0.2 hbE)) (fun hH => ?_)
        clear hK K
        refine wpAnyH_ready (rs := [9]) (by kernel_rfl) (by simp) ?_
        refine AllReadyH.cons rfl (fun K hK => ?_) AllReadyH.nil
        go_simp
        refine hK.out _ _ (And.intro (rgA_later hS0.1 hbE) (rgA_later hS0.2 hbE)) (fun hH => ?_)
        clear hK K
        refine wpAnyH_done (by kernel_rfl) ?_ _
        refine ⟨.agg #[.int .i64 x, .int .i64 y, .slice aX cs.length cX], .agg #[.int .i64 c.k, .int .i64 c.a, .int .i64 c.b], .agg #[.int .i64 c.k, .int .i64 c.a, .int .i64 c.b], .tuple #[.agg #[.int .i64 X, .int .i64 Y, .slice aR D.length cR], .bool R], .tuple #[.agg #[.int .i64 X, .int .i64 Y, .slice aR D.length cR], .bool R], .agg #[.int .i64 X, .int .i64 Y, .slice aR D.length cR], .bool R, aR, cR, w50.heap.size, ?_, hgeV, hbE, hVE, hRE⟩
        first | rfl | (simp only [Act.put, List.setIfInBounds_toArray, List.set_cons_zero, List.set_cons_succ]; rfl) | skip
    · go_simp
      have hV0 : ((w4.drew).alloc (.cells #[.int .i64 0, .int .i64 0, .slice none 0 0] 30)).heap[w4.heap.size]? = some (.cells #[.int .i64 0, .int .i64 0, .slice none 0 0] 30) := heap_alloc_new (w4.drew) (.cells #[.int .i64 0, .int .i64 0, .slice none 0 0] 30)
      have hA0 : Below (w4.drew).heap.size (w4.drew) ((w4.drew).alloc (.cells #[.int .i64 0, .int .i64 0, .slice none 0 0] 30)) := (Below.refl _ _).alloc (Nat.le_refl _) _
      have hbA0 := ((Below.refl w4.heap.size w4).drew).trans (hA0.mono ((Below.refl w4.heap.size w4).drew).size)
      have hgeV : w4.heap.size ≤ w4.heap.size := ((Below.refl w4.heap.size w4).drew).size
      have hSA := (And.intro (rgA_later hS0.1 hbA0) (rgA_later hS0.2 hbA0) : (fun (w' : World) => w'.rangeAt N2 0 [.int .i64 x, .int .i64 y, .slice aX cs.length cX] ∧ w'.rangeAt (w.heap.size + 1) 0 [.int .i64 c.k, .int .i64 c.a, .int .i64 c.b]) ((w4.drew).alloc (.cells #[.int .i64 0, .int .i64 0, .slice none 0 0] 30)))
      refine hK.out _ _ hSA (fun hH => ?_)
      clear hK K
      refine wpAnyH_ready (rs := [2]) (by kernel_rfl) (by simp) ?_
      refine AllReadyH.cons rfl (fun K hK => ?_) AllReadyH.nil
      go_simp
      refine (HTC.out _).mono ?_
      rintro e w51 ⟨rfl, hbS⟩
      have hbc1 := (hbA0).trans (hbS.mono (hbA0).size)
      have hV0 := (hbS.block _ (block_lt hV0)).trans hV0
      go_wp2_with fail
      refine hK.out _ _ (And.intro (rgA_later hS0.1 hbc1) (rgA_later hS0.2 hbc1)) (fun hH => ?_)
      clear hK K
      refine wpAnyH_ready (rs := [3]) (by kernel_rfl) (by simp) ?_
      refine AllReadyH.cons rfl (fun K hK => ?_) AllReadyH.nil
      go_simp
      have hRS := RX4.out.below (hbc1)
      refine (HI.out aX _ cX _ rfl hRS.cap.1 hRS.cap.2 hRS.at).mono ?_
      rintro e w52 ⟨vR, rfl, hRE0, hbS⟩
      obtain ⟨aR, cR, hv⟩ := hRE0.shape
      subst hv
      have hRE0 := hRE0.mono (hbc1).size
      have hbc2 := (hbc1).trans (hbS.mono (hbc1).size)
      have hV0 := (hbS.block _ (block_lt hV0)).trans hV0
      go_wp2_with fail
      refine hK.out _ _ (And.intro (rgA_later hS0.1 hbc2) (rgA_later hS0.2 hbc2)) (fun hH => ?_)
      clear hK K
      refine wpAnyH_take (i := 4) (v := .tuple #[.agg #[.int .i64 X, .int .i64 Y, .slice aR D.length cR], .bool R]) rfl (by kernel_rfl) (by kernel_rfl) (by kernel_rfl) (fun _ _ _ h => h) (Or.inl ⟨by rfl, fun w' _ => by unfold execOp; go_simp⟩) hH ?_
      simp only [Act.put, List.setIfInBounds_toArray, List.set_cons_zero, List.set_cons_succ]
      refine wpAnyH_take (i := 5) (v := .agg #[.int .i64 X, .int .i64 Y, .slice aR D.length cR]) rfl (by kernel_rfl) (by kernel_rfl) (by kernel_rfl) (fun _ _ _ h => h) (Or.inl ⟨by rfl, fun w' _ => by unfold execOp; go_simp⟩) hH ?_
      simp only [Act.put, List.setIfInBounds_toArray, List.set_cons_zero, List.set_cons_succ]
      refine wpAnyH_take (i := 6) (v := .bool R) rfl (by kernel_rfl) (by kernel_rfl) (by kernel_rfl) (fun _ _ _ h => h) (Or.inl ⟨by rfl, fun w' _ => by unfold execOp; go_simp⟩) hH ?_
      simp only [Act.put, List.setIfInBounds_toArray, List.set_cons_zero, List.set_cons_succ]
      refine wpAnyH_ready (rs := [8]) (by kernel_rfl) (by simp) ?_
      refine AllReadyH.cons rfl (fun K hK => ?_) AllReadyH.nil
      have z0 := cell_of_block hV0 0
      have z1 := cell_of_block hV0 1
      have z2 := cell_of_block hV0 2
      have zf := frozen_of_block hV0
      simp at z0 z1 z2
      obtain ⟨hVE, hbV⟩ := puzzle_stored (B := w4.heap.size) hV0 hgeV (.int .i64 X) (.int .i64 Y) (.slice aR D.length cR)
      have hRE := hRE0.put3 (x := .int .i64 X) (y := .int .i64 Y) (z := .slice aR D.length cR) hV0
      have hbE := (hbc2).trans hbV
      go_simp
      refine hK.out _ _ (And.intro (rgA_later hS0.1 hbE) (rgA_later hS0.2 hbE)) (fun hH => ?_)
      clear hK K
      refine wpAnyH_ready (rs := [9]) (by kernel_rfl) (by simp) ?_
      refine AllReadyH.cons rfl (fun K hK => ?_) AllReadyH.nil
      go_simp
      refine hK.out _ _ (And.intro (rgA_later hS0.1 hbE) (rgA_later hS0.2 hbE)) (fun hH => ?_)
      clear hK K
      refine wpAnyH_done (by kernel_rfl) ?_ _
      refine ⟨.agg #[.int .i64 x, .int .i64 y, .slice aX cs.length cX], .agg #[.int .i64 c.k, .int .i64 c.a, .int .i64 c.b], .agg #[.int .i64 c.k, .int .i64 c.a, .int .i64 c.b], .tuple #[.agg #[.int .i64 X, .int .i64 Y, .slice aR D.length cR], .bool R], .tuple #[.agg #[.int .i64 X, .int .i64 Y, .slice aR D.length cR], .bool R], .agg #[.int .i64 X, .int .i64 Y, .slice aR D.length cR], .bool R, aR, cR, w4.heap.size, ?_, hgeV, hbE, hVE, hRE⟩
      first | rfl | (simp only [Act.put, List.setIfInBounds_toArray, List.set_cons_zero, List.set_cons_succ]; rfl) | skip
  rintro a' w5 ⟨u32, u33, u34, u35, u31, u36, u37, aH, cH, NH, rfl, hgeH, hb5, hN5, hRH⟩
  simp only [Act.put, List.setIfInBounds_toArray, List.set_cons_zero, List.set_cons_succ]
  have KG5 := Lib.hid ((hb5.block _ (block_lt KG4.out)).trans KG4.out)
  have KC5 := Lib.hid ((hb5.block _ (block_lt KC4.out)).trans KC4.out)
  have KV5 := Lib.hid ((hb5.block _ (block_lt KV4.out)).trans KV4.out)
  have KX5 := Lib.hid ((hb5.block _ (block_lt KX4.out)).trans KX4.out)
  have AM5 := Lib.hid (AM4.out.later rfl hb5)
  have RX5 := Lib.hid (RX4.out.below hb5)
  have B5 := Lib.hid (B4.out.trans (hb5.mono B4.out.size))
  clear hb5 KG4 KC4 KV4 KX4 AM4 RX4 B4
  have KH5 := Lib.hid hN5
  have hgeH2 : ∀ ad, aH = some ad → N2 ≤ ad.block := fun ad h => Nat.le_trans hNS2 (hRH.lt ad h).1
  have hgeH := hgeH2
  have RH5 := Lib.hid hRH
  clear hN5 hRH hgeH2
  have fG0 := cell_of_block KG5.out 0
  have fG1 := cell_of_block KG5.out 1
  have fG2 := cell_of_block KG5.out 2
  have fC0 := cell_of_block KC5.out 0
  have fC1 := cell_of_block KC5.out 1
  have fC2 := cell_of_block KC5.out 2
  have fV0 := cell_of_block KV5.out 0
  have fV1 := cell_of_block KV5.out 1
  have fV2 := cell_of_block KV5.out 2
  have fX0 := cell_of_block KX5.out 0
  have fX1 := cell_of_block KX5.out 1
  have fX2 := cell_of_block KX5.out 2
  have fH0 := cell_of_block KH5.out 0
  have fH1 := cell_of_block KH5.out 1
  have fH2 := cell_of_block KH5.out 2
  simp at fG0 fG1 fG2 fC0 fC1 fC2 fV0 fV1 fV2 fX0 fX1 fX2 fH0 fH1 fH2
  go_wp2_with fail
  clear fG0 fG1 fG2 fC0 fC1 fC2 fV0 fV1 fV2 fX0 fX1 fX2 fH0 fH1 fH2
  refine (HED.out aH aM _ _ cH cM w5 rfl rfl RH5.out.at AM5.out).mono ?_
  rintro e w6 ⟨rfl, hb6⟩
  have KG6 := Lib.hid ((hb6.block _ (block_lt KG5.out)).trans KG5.out)
  have KC6 := Lib.hid ((hb6.block _ (block_lt KC5.out)).trans KC5.out)
  have KV6 := Lib.hid ((hb6.block _ (block_lt KV5.out)).trans KV5.out)
  have KX6 := Lib.hid ((hb6.block _ (block_lt KX5.out)).trans KX5.out)
  have KH6 := Lib.hid ((hb6.block _ (block_lt KH5.out)).trans KH5.out)
  have AM6 := Lib.hid (AM5.out.later rfl hb6)
  have RX6 := Lib.hid (RX5.out.below hb6)
  have RH6 := Lib.hid (RH5.out.below hb6)
  have B6 := Lib.hid (B5.out.trans (hb6.mono B5.out.size))
  clear hb6 KG5 KC5 KV5 KX5 KH5 AM5 RX5 RH5 B5
  have fG0 := cell_of_block KG6.out 0
  have fG1 := cell_of_block KG6.out 1
  have fG2 := cell_of_block KG6.out 2
  have fC0 := cell_of_block KC6.out 0
  have fC1 := cell_of_block KC6.out 1
  have fC2 := cell_of_block KC6.out 2
  have fV0 := cell_of_block KV6.out 0
  have fV1 := cell_of_block KV6.out 1
  have fV2 := cell_of_block KV6.out 2
  have fX0 := cell_of_block KX6.out 0
  have fX1 := cell_of_block KX6.out 1
  have fX2 := cell_of_block KX6.out 2
  have fH0 := cell_of_block KH6.out 0
  have fH1 := cell_of_block KH6.out 1
  have fH2 := cell_of_block KH6.out 2
  simp at fG0 fG1 fG2 fC0 fC1 fC2 fV0 fV1 fV2 fX0 fX1 fX2 fH0 fH1 fH2
  go_wp2_with fail
  go_region_law (first
    | (go_simp; go_at_call 7; refine (HTP.out _ (HAT.out.later rfl (ofDrewB B6.out))).mono ?_; rintro e w7 ⟨vZ, rfl, hRZ, hbZ⟩;
       obtain ⟨aZ, cZ, hvZ⟩ := hRZ.shape; subst hvZ; have HXZ := Lib.hid ((hbZ.block _ (block_lt KX6.out)).trans KX6.out);
       have yZ0 := cell_of_block HXZ.out 0; have yZ1 := cell_of_block HXZ.out 1; have yZ2 := cell_of_block HXZ.out 2; simp at yZ0 yZ1 yZ2)
    | (go_simp; go_at_call 10; refine (HE.out aX aZ _ _ cX cZ w7 rfl rfl (RX6.out.at.later rfl (ofDrewC hbZ)) hRZ.at).mono ?_; rintro e w8 ⟨rfl, hbY⟩))
  all_goals
    have hb7 : Below w6.heap.size w6 w8 := (ofDrewC hbZ).trans (hbY.mono (ofDrewC hbZ).size)
    clear hbZ hbY hRZ fG0 fG1 fG2 fC0 fC1 fC2 fV0 fV1 fV2 fX0 fX1 fX2 fH0 fH1 fH2
    try clear HXZ yZ0 yZ1 yZ2
    generalize w8 = w7' at *
    have KG7 := Lib.hid ((hb7.block _ (block_lt KG6.out)).trans KG6.out)
    have KC7 := Lib.hid ((hb7.block _ (block_lt KC6.out)).trans KC6.out)
    have KV7 := Lib.hid ((hb7.block _ (block_lt KV6.out)).trans KV6.out)
    have KX7 := Lib.hid ((hb7.block _ (block_lt KX6.out)).trans KX6.out)
    have KH7 := Lib.hid ((hb7.block _ (block_lt KH6.out)).trans KH6.out)
    have AM7 := Lib.hid (AM6.out.later rfl hb7)
    have RX7 := Lib.hid (RX6.out.below hb7)
    have RH7 := Lib.hid (RH6.out.below hb7)
    have B7 := Lib.hid (B6.out.trans (hb7.mono B6.out.size))
    clear hb7 KG6 KC6 KV6 KX6 KH6 AM6 RX6 RH6 B6
    have fG0 := cell_of_block KG7.out 0
    have fG1 := cell_of_block KG7.out 1
    have fG2 := cell_of_block KG7.out 2
    have fC0 := cell_of_block KC7.out 0
    have fC1 := cell_of_block KC7.out 1
    have fC2 := cell_of_block KC7.out 2
    have fV0 := cell_of_block KV7.out 0
    have fV1 := cell_of_block KV7.out 1
    have fV2 := cell_of_block KV7.out 2
    have fX0 := cell_of_block KX7.out 0
    have fX1 := cell_of_block KX7.out 1
    have fX2 := cell_of_block KX7.out 2
    have fH0 := cell_of_block KH7.out 0
    have fH1 := cell_of_block KH7.out 1
    have fH2 := cell_of_block KH7.out 2
    simp at fG0 fG1 fG2 fC0 fC1 fC2 fV0 fV1 fV2 fX0 fX1 fX2 fH0 fH1 fH2
    go_wp2_with fail
    clear fG0 fG1 fG2 fC0 fC1 fC2 fV0 fV1 fV2 fX0 fX1 fX2 fH0 fH1 fH2
    have hNw : w.heap.size ≤ N1 := hNw0
    refine (HMX.out _ aX _ cX w7' rfl RX7.out).mono ?_
    rintro e w8 ⟨rfl, hRm, hb8⟩
    have KG8 := Lib.hid ((hb8.block _ (block_lt KG7.out) (RX7.out.ne KG7.out (by decide))).trans KG7.out)
    have KC8 := Lib.hid ((hb8.block _ (block_lt KC7.out) (RX7.out.ne KC7.out (by decide))).trans KC7.out)
    have KV8 := Lib.hid ((hb8.block _ (block_lt KV7.out) (RX7.out.ne KV7.out (by decide))).trans KV7.out)
    have KX8 := Lib.hid ((hb8.block _ (block_lt KX7.out) (RX7.out.ne KX7.out (by decide))).trans KX7.out)
    have KH8 := Lib.hid ((hb8.block _ (block_lt KH7.out) (RX7.out.ne KH7.out (by decide))).trans KH7.out)
    have AM8 := Lib.hid (AM7.out.spares hb8 (fun ad ad' h h' => by have h1 := hgeX ad h; have h2 := hltM ad' h'; omega))
    have RH8 := Lib.hid (RH7.out.spares hb8 (fun ad ad' h h' => by have h1 := hltX ad h; have h2 := hgeH ad' h'; omega))
    have B8 := Lib.hid (B7.out.trans ((hb8.below B7.out.size (fun ad h => Nat.le_trans hNw (hgeX ad h))).mono (Nat.le_refl _)))
    clear hb8 KG7 KC7 KV7 KX7 KH7 AM7 RH7 B7
    clear RX7
    have RX8 := Lib.hid hRm
    clear hRm
    have fG0 := cell_of_block KG8.out 0
    have fG1 := cell_of_block KG8.out 1
    have fG2 := cell_of_block KG8.out 2
    have fC0 := cell_of_block KC8.out 0
    have fC1 := cell_of_block KC8.out 1
    have fC2 := cell_of_block KC8.out 2
    have fV0 := cell_of_block KV8.out 0
    have fV1 := cell_of_block KV8.out 1
    have fV2 := cell_of_block KV8.out 2
    have fX0 := cell_of_block KX8.out 0
    have fX1 := cell_of_block KX8.out 1
    have fX2 := cell_of_block KX8.out 2
    have fH0 := cell_of_block KH8.out 0
    have fH1 := cell_of_block KH8.out 1
    have fH2 := cell_of_block KH8.out 2
    simp at fG0 fG1 fG2 fC0 fC1 fC2 fV0 fV1 fV2 fX0 fX1 fX2 fH0 fH1 fH2
    go_wp2_with fail
    clear fG0 fG1 fG2 fC0 fC1 fC2 fV0 fV1 fV2 fX0 fX1 fX2 fH0 fH1 fH2
    refine (HED.out aH aM _ _ cH cM w8 rfl rfl RH8.out.at AM8.out).mono ?_
    rintro e w9 ⟨rfl, hb9⟩
    have KG9 := Lib.hid ((hb9.block _ (block_lt KG8.out)).trans KG8.out)
    have KC9 := Lib.hid ((hb9.block _ (block_lt KC8.out)).trans KC8.out)
    have KV9 := Lib.hid ((hb9.block _ (block_lt KV8.out)).trans KV8.out)
    have KX9 := Lib.hid ((hb9.block _ (block_lt KX8.out)).trans KX8.out)
    have KH9 := Lib.hid ((hb9.block _ (block_lt KH8.out)).trans KH8.out)
    have AM9 := Lib.hid (AM8.out.later rfl hb9)
    have RH9 := Lib.hid (RH8.out.below hb9)
    have RX9 := Lib.hid (RX8.out.below hb9)
    have B9 := Lib.hid (B8.out.trans (hb9.mono B8.out.size))
    clear hb9 KG8 KC8 KV8 KX8 KH8 AM8 RH8 RX8 B8
    have fG0 := cell_of_block KG9.out 0
    have fG1 := cell_of_block KG9.out 1
    have fG2 := cell_of_block KG9.out 2
    have fC0 := cell_of_block KC9.out 0
    have fC1 := cell_of_block KC9.out 1
    have fC2 := cell_of_block KC9.out 2
    have fV0 := cell_of_block KV9.out 0
    have fV1 := cell_of_block KV9.out 1
    have fV2 := cell_of_block KV9.out 2
    have fX0 := cell_of_block KX9.out 0
    have fX1 := cell_of_block KX9.out 1
    have fX2 := cell_of_block KX9.out 2
    have fH0 := cell_of_block KH9.out 0
    have fH1 := cell_of_block KH9.out 1
    have fH2 := cell_of_block KH9.out 2
    simp at fG0 fG1 fG2 fC0 fC1 fC2 fV0 fV1 fV2 fX0 fX1 fX2 fH0 fH1 fH2
    go_wp2_with fail
    clear fG0 fG1 fG2 fC0 fC1 fC2 fV0 fV1 fV2 fX0 fX1 fX2 fH0 fH1 fH2
    have hN12 : N1 ≤ N2 := hN120
    refine (HMG.out _ aH _ cH w9 rfl RH9.out).mono ?_
    rintro e w10 ⟨rfl, hRm, hb10⟩
    have KG10 := Lib.hid ((hb10.block _ (block_lt KG9.out) (RH9.out.ne KG9.out (by decide))).trans KG9.out)
    have KC10 := Lib.hid ((hb10.block _ (block_lt KC9.out) (RH9.out.ne KC9.out (by decide))).trans KC9.out)
    have KV10 := Lib.hid ((hb10.block _ (block_lt KV9.out) (RH9.out.ne KV9.out (by decide))).trans KV9.out)
    have KX10 := Lib.hid ((hb10.block _ (block_lt KX9.out) (RH9.out.ne KX9.out (by decide))).trans KX9.out)
    have KH10 := Lib.hid ((hb10.block _ (block_lt KH9.out) (RH9.out.ne KH9.out (by decide))).trans KH9.out)
    have AM10 := Lib.hid (AM9.out.spares hb10 (fun ad ad' h h' => by have h1 := hgeH ad h; have h2 := hltM ad' h'; omega))
    have RX10 := Lib.hid (RX9.out.spares hb10 (fun ad ad' h h' => by have h1 := hgeH ad h; have h2 := hltX ad' h'; omega))
    have B10 := Lib.hid (B9.out.trans ((hb10.below B9.out.size (fun ad h => Nat.le_trans hNw (Nat.le_trans hN12 (hgeH ad h)))).mono (Nat.le_refl _)))
    clear hb10 KG9 KC9 KV9 KX9 KH9 AM9 RX9 B9
    clear RH9
    have RH10 := Lib.hid hRm
    clear hRm
    have fG0 := cell_of_block KG10.out 0
    have fG1 := cell_of_block KG10.out 1
    have fG2 := cell_of_block KG10.out 2
    have fC0 := cell_of_block KC10.out 0
    have fC1 := cell_of_block KC10.out 1
    have fC2 := cell_of_block KC10.out 2
    have fV0 := cell_of_block KV10.out 0
    have fV1 := cell_of_block KV10.out 1
    have fV2 := cell_of_block KV10.out 2
    have fX0 := cell_of_block KX10.out 0
    have fX1 := cell_of_block KX10.out 1
    have fX2 := cell_of_block KX10.out 2
    have fH0 := cell_of_block KH10.out 0
    have fH1 := cell_of_block KH10.out 1
    have fH2 := cell_of_block KH10.out 2
    simp at fG0 fG1 fG2 fC0 fC1 fC2 fV0 fV1 fV2 fX0 fX1 fX2 fH0 fH1 fH2
    go_wp2_with fail
    clear fG0 fG1 fG2 fC0 fC1 fC2 fV0 fV1 fV2 fX0 fX1 fX2 fH0 fH1 fH2
    refine (HHG.out aH cH w10 RH10.out.at).mono ?_
    rintro e w11 ⟨rfl, hb11⟩
    have KG11 := Lib.hid ((hb11.block _ (block_lt KG10.out)).trans KG10.out)
    have KC11 := Lib.hid ((hb11.block _ (block_lt KC10.out)).trans KC10.out)
    have KV11 := Lib.hid ((hb11.block _ (block_lt KV10.out)).trans KV10.out)
    have KX11 := Lib.hid ((hb11.block _ (block_lt KX10.out)).trans KX10.out)
    have KH11 := Lib.hid ((hb11.block _ (block_lt KH10.out)).trans KH10.out)
    have AM11 := Lib.hid (AM10.out.later rfl hb11)
    have RX11 := Lib.hid (RX10.out.below hb11)
    have RH11 := Lib.hid (RH10.out.below hb11)
    have B11 := Lib.hid (B10.out.trans (hb11.mono B10.out.size))
    clear hb11 KG10 KC10 KV10 KX10 KH10 AM10 RX10 RH10 B10
    have fG0 := cell_of_block KG11.out 0
    have fG1 := cell_of_block KG11.out 1
    have fG2 := cell_of_block KG11.out 2
    have fC0 := cell_of_block KC11.out 0
    have fC1 := cell_of_block KC11.out 1
    have fC2 := cell_of_block KC11.out 2
    have fV0 := cell_of_block KV11.out 0
    have fV1 := cell_of_block KV11.out 1
    have fV2 := cell_of_block KV11.out 2
    have fX0 := cell_of_block KX11.out 0
    have fX1 := cell_of_block KX11.out 1
    have fX2 := cell_of_block KX11.out 2
    have fH0 := cell_of_block KH11.out 0
    have fH1 := cell_of_block KH11.out 1
    have fH2 := cell_of_block KH11.out 2
    simp at fG0 fG1 fG2 fC0 fC1 fC2 fV0 fV1 fV2 fX0 fX1 fX2 fH0 fH1 fH2
    go_wp2_with fail
    clear fG0 fG1 fG2 fC0 fC1 fC2 fV0 fV1 fV2 fX0 fX1 fX2 fH0 fH1 fH2
    go_upto_region 24 with fail
    refine region_cut (M := fun a0 a' w' => ∃ (u80 u81 u82 u83 u84 u79 u85 u86 : Value) (aP : Option Addr) (cP NP : Nat), a' = ⟨((((((((((a0.tmps.setIfInBounds 80 u80).setIfInBounds 81 u81).setIfInBounds 82 u82).setIfInBounds 83 u83).setIfInBounds 84 u84).setIfInBounds 79 u79).setIfInBounds 85 u85).setIfInBounds 86 u86).setIfInBounds 14 (.pointer (some ⟨NP, 0, none⟩))).setIfInBounds 15 (.bool R)), a0.defers⟩ ∧ w11.heap.size ≤ NP ∧ Below w11.heap.size w11 w' ∧ w'.heap[NP]? = some (.cells #[.int .i64 X, .int .i64 Y, .slice aP D.length cP] 30 (0, 0)) ∧ RowC w' w11.heap.size (.slice aP D.length cP) D) ?_ ?_
    ·
      have hS0 : (fun (w' : World) => w'.rangeAt w.heap.size 0 [.int .i64 x, .int .i64 y, .slice a cs.length cap] ∧ w'.rangeAt (w.heap.size + 1) 0 [.int .i64 c.k, .int .i64 c.a, .int .i64 c.b]) w11 := ⟨range3 (cell_of_block KG11.out 0) (cell_of_block KG11.out 1) (cell_of_block KG11.out 2), range3 (cell_of_block KC11.out 0) (cell_of_block KC11.out 1) (cell_of_block KC11.out 2)⟩
      have hlP := block_lt KG11.out
      have hlC := block_lt KC11.out
      refine wp_region_held_drew (S := fun (w' : World) => w'.rangeAt w.heap.size 0 [.int .i64 x, .int .i64 y, .slice a cs.length cap] ∧ w'.rangeAt (w.heap.size + 1) 0 [.int .i64 c.k, .int .i64 c.a, .int .i64 c.b]) (by kernel_rfl) hS0 (fun hH => ?_)
      refine wpAnyH_take (i := 0) (v := .agg #[.int .i64 x, .int .i64 y, .slice a cs.length cap]) rfl (by kernel_rfl) (by kernel_rfl) (by kernel_rfl) (fun _ _ _ h => h) (yieldsIf_load_mid (by rfl) 24 _ rfl (w.heap.size) 0 rfl [.int .i64 x, .int .i64 y, .slice a cs.length cap] _ (fun _ h => h.1) Try.underlying24 rfl infPL) hH ?_
      simp only [Act.put, List.setIfInBounds_toArray, List.set_cons_zero, List.set_cons_succ]
      refine wpAnyH_take (i := 2) (v := .agg #[.int .i64 c.k, .int .i64 c.a, .int .i64 c.b]) rfl (by kernel_rfl) (by kernel_rfl) (by kernel_rfl) (fun _ _ _ h => h) (yieldsIf_load_mid (by rfl) 26 _ rfl (w.heap.size + 1) 0 rfl [.int .i64 c.k, .int .i64 c.a, .int .i64 c.b] _ (fun _ h => h.2) Try.underlying26 rfl infCL) hH ?_
      simp only [Act.put, List.setIfInBounds_toArray, List.set_cons_zero, List.set_cons_succ]
      refine wpAnyH_ready (rs := [1, 8]) (by kernel_rfl) (by simp) ?_
      refine AllReadyH.cons rfl (fun K hK => ?_) (AllReadyH.cons rfl (fun K hK => ?_) AllReadyH.nil)
      · go_simp
        refine (HTP.out _ (HAT.out.later rfl (B11.out.trans (((Below.refl w11.heap.size w11).drew).mono B11.out.size)))).mono ?_
        rintro e w120 ⟨vS, rfl, hRS, hbS⟩
        obtain ⟨aS, cS, hv⟩ := hRS.shape
        subst hv
        have hbc0 := ((Below.refl w11.heap.size w11).drew).trans (hbS.mono ((Below.refl w11.heap.size w11).drew).size)
        go_wp2_with fail
        refine hK.out _ _ (And.intro (rgA_later hS0.1 hbc0) (rgA_later hS0.2 hbc0)) (fun hH => ?_)
        clear hK K
        refine wpAnyH_ready (rs := [3, 8]) (by kernel_rfl) (by simp) ?_
        refine AllReadyH.cons rfl (fun K hK => ?_) (AllReadyH.cons rfl (fun K hK => ?_) AllReadyH.nil)
        · go_simp
          refine (HTC.out _).mono ?_
          rintro e w121 ⟨rfl, hbS⟩
          have hbc1 := (hbc0).trans (hbS.mono (hbc0).size)
          have hRS := hRS.below hbS
          go_wp2_with fail
          refine hK.out _ _ (And.intro (rgA_later hS0.1 hbc1) (rgA_later hS0.2 hbc1)) (fun hH => ?_)
          clear hK K
          refine wpAnyH_ready (rs := [4, 8]) (by kernel_rfl) (by simp) ?_
          refine AllReadyH.cons rfl (fun K hK => ?_) (AllReadyH.cons rfl (fun K hK => ?_) AllReadyH.nil)
          · go_simp
            refine (HI.out aS _ cS _ rfl hRS.cap.1 hRS.cap.2 hRS.at).mono ?_
            rintro e w122 ⟨vR, rfl, hRE0, hbS⟩
            obtain ⟨aR, cR, hv⟩ := hRE0.shape
            subst hv
            have hRE0 := hRE0.mono (hbc1).size
            have hbc2 := (hbc1).trans (hbS.mono (hbc1).size)
            go_wp2_with fail
            refine hK.out _ _ (And.intro (rgA_later hS0.1 hbc2) (rgA_later hS0.2 hbc2)) (fun hH => ?_)
            clear hK K
            refine wpAnyH_take (i := 5) (v := .tuple #[.agg #[.int .i64 X, .int .i64 Y, .slice aR D.length cR], .bool R]) rfl (by kernel_rfl) (by kernel_rfl) (by kernel_rfl) (fun _ _ _ h => h) (Or.inl ⟨by rfl, fun w' _ => by unfold execOp; go_simp⟩) hH ?_
            simp only [Act.put, List.setIfInBounds_toArray, List.set_cons_zero, List.set_cons_succ]
            refine wpAnyH_take (i := 6) (v := .agg #[.int .i64 X, .int .i64 Y, .slice aR D.length cR]) rfl (by kernel_rfl) (by kernel_rfl) (by kernel_rfl) (fun _ _ _ h => h) (Or.inl ⟨by rfl, fun w' _ => by unfold execOp; go_simp⟩) hH ?_
            simp only [Act.put, List.setIfInBounds_toArray, List.set_cons_zero, List.set_cons_succ]
            refine wpAnyH_take (i := 7) (v := .bool R) rfl (by kernel_rfl) (by kernel_rfl) (by kernel_rfl) (fun _ _ _ h => h) (Or.inl ⟨by rfl, fun w' _ => by unfold execOp; go_simp⟩) hH ?_
            simp only [Act.put, List.setIfInBounds_toArray, List.set_cons_zero, List.set_cons_succ]
            refine wpAnyH_ready (rs := [8]) (by kernel_rfl) (by simp) ?_
            refine AllReadyH.cons rfl (fun K hK => ?_) AllReadyH.nil
            go_simp
            have hV0 : ((w122).alloc (.cells #[.int .i64 0, .int .i64 0, .slice none 0 0] 30)).heap[w122.heap.size]? = some (.cells #[.int .i64 0, .int .i64 0, .slice none 0 0] 30) := heap_alloc_new (w122) (.cells #[.int .i64 0, .int .i64 0, .slice none 0 0] 30)
            have hA0 : Below (w122).heap.size (w122) ((w122).alloc (.cells #[.int .i64 0, .int .i64 0, .slice none 0 0] 30)) := (Below.refl _ _).alloc (Nat.le_refl _) _
            have hbA3 := (hbc2).trans (hA0.mono (hbc2).size)
            have hgeV : w11.heap.size ≤ w122.heap.size := (hbc2).size
            have hSA := (And.intro (rgA_later hS0.1 hbA3) (rgA_later hS0.2 hbA3) : (fun (w' : World) => w'.rangeAt w.heap.size 0 [.int .i64 x, .int .i64 y, .slice a cs.length cap] ∧ w'.rangeAt (w.heap.size + 1) 0 [.int .i64 c.k, .int .i64 c.a, .int .i64 c.b]) ((w122).alloc (.cells #[.int .i64 0, .int .i64 0, .slice none 0 0] 30)))
            refine hK.out _ _ hSA (fun hH => ?_)
            clear hK K
            refine wpAnyH_ready (rs := [9]) (by kernel_rfl) (by simp) ?_
            refine AllReadyH.cons rfl (fun K hK => ?_) AllReadyH.nil
            have hVE : ((w122).alloc (.cells #[.int .i64 X, .int .i64 Y, .slice aR D.length cR] 30)).heap[w122.heap.size]? = some (.cells #[.int .i64 X, .int .i64 Y, .slice aR D.length cR] 30) := heap_alloc_new (w122) (.cells #[.int .i64 X, .int .i64 Y, .slice aR D.length cR] 30)
            have hA1 : Below (w122).heap.size (w122) ((w122).alloc (.cells #[.int .i64 X, .int .i64 Y, .slice aR D.length cR] 30)) := (Below.refl _ _).alloc (Nat.le_refl _) _
            have hbE := (hbc2).trans (hA1.mono (hbc2).size)
            have hRE := hRE0.below hA1
            go_simp
            refine hK.out _ _ (And.intro (rgA_later hS0.1 hbE) (rgA_later hS0.2 hbE)) (fun hH => ?_)
            clear hK K
            refine wpAnyH_ready (rs := [10]) (by kernel_rfl) (by simp) ?_
            refine AllReadyH.cons rfl (fun K hK => ?_) AllReadyH.nil
            go_simp
            refine hK.out _ _ (And.intro (rgA_later hS0.1 hbE) (rgA_later hS0.2 hbE)) (fun hH => ?_)
            clear hK K
            refine wpAnyH_done (by kernel_rfl) ?_ _
            refine ⟨.agg #[.int .i64 x, .int .i64 y, .slice a cs.length cap], .agg #[.int .i64 x, .int .i64 y, .slice aS cs.length cS], .agg #[.int .i64 c.k, .int .i64 c.a, .int .i64 c.b], .agg #[.int .i64 c.k, .int .i64 c.a, .int .i64 c.b], .tuple #[.agg #[.int .i64 X, .int .i64 Y, .slice aR D.length cR], .bool R], .tuple #[.agg #[.int .i64 X, .int .i64 Y, .slice aR D.length cR], .bool R], .agg #[.int .i64 X, .int .i64 Y, .slice aR D.length cR], .bool R, aR, cR, w122.heap.size, ?_, hgeV, hbE, hVE, hRE⟩
            first | rfl | (simp only [Act.put, List.setIfInBounds_toArray, List.set_cons_zero, List.set_cons_succ]; rfl) | skip
          · go_simp
            have hV0 : ((w121).alloc (.cells #[.int .i64 0, .int .i64 0, .slice none 0 0] 30)).heap[w121.heap.size]? = some (.cells #[.int .i64 0, .int .i64 0, .slice none 0 0] 30) := heap_alloc_new (w121) (.cells #[.int .i64 0, .int .i64 0, .slice none 0 0] 30)
            have hA0 : Below (w121).heap.size (w121) ((w121).alloc (.cells #[.int .i64 0, .int .i64 0, .slice none 0 0] 30)) := (Below.refl _ _).alloc (Nat.le_refl _) _
            have hbA2 := (hbc1).trans (hA0.mono (hbc1).size)
            have hgeV : w11.heap.size ≤ w121.heap.size := (hbc1).size
            have hSA := (And.intro (rgA_later hS0.1 hbA2) (rgA_later hS0.2 hbA2) : (fun (w' : World) => w'.rangeAt w.heap.size 0 [.int .i64 x, .int .i64 y, .slice a cs.length cap] ∧ w'.rangeAt (w.heap.size + 1) 0 [.int .i64 c.k, .int .i64 c.a, .int .i64 c.b]) ((w121).alloc (.cells #[.int .i64 0, .int .i64 0, .slice none 0 0] 30)))
            refine hK.out _ _ hSA (fun hH => ?_)
            clear hK K
            have hRS := hRS.later2 hA0
            refine wpAnyH_ready (rs := [4]) (by kernel_rfl) (by simp) ?_
            refine AllReadyH.cons rfl (fun K hK => ?_) AllReadyH.nil
            go_simp
            refine (HI.out aS _ cS _ rfl hRS.cap.1 hRS.cap.2 hRS.at).mono ?_
            rintro e w123 ⟨vR, rfl, hRE0, hbS⟩
            obtain ⟨aR, cR, hv⟩ := hRE0.shape
            subst hv
            have hRE0 := hRE0.mono (hbA2).size
            have hbc3 := (hbA2).trans (hbS.mono (hbA2).size)
            have hV0 := (hbS.block _ (block_lt hV0)).trans hV0
            go_wp2_with fail
            refine hK.out _ _ (And.intro (rgA_later hS0.1 hbc3) (rgA_later hS0.2 hbc3)) (fun hH => ?_)
            clear hK K
            refine wpAnyH_take (i := 5) (v := .tuple #[.agg #[.int .i64 X, .int .i64 Y, .slice aR D.length cR], .bool R]) rfl (by kernel_rfl) (by kernel_rfl) (by kernel_rfl) (fun _ _ _ h => h) (Or.inl ⟨by rfl, fun w' _ => by unfold execOp; go_simp⟩) hH ?_
            simp only [Act.put, List.setIfInBounds_toArray, List.set_cons_zero, List.set_cons_succ]
            refine wpAnyH_take (i := 6) (v := .agg #[.int .i64 X, .int .i64 Y, .slice aR D.length cR]) rfl (by kernel_rfl) (by kernel_rfl) (by kernel_rfl) (fun _ _ _ h => h) (Or.inl ⟨by rfl, fun w' _ => by unfold execOp; go_simp⟩) hH ?_
            simp only [Act.put, List.setIfInBounds_toArray, List.set_cons_zero, List.set_cons_succ]
            refine wpAnyH_take (i := 7) (v := .bool R) rfl (by kernel_rfl) (by kernel_rfl) (by kernel_rfl) (fun _ _ _ h => h) (Or.inl ⟨by rfl, fun w' _ => by unfold execOp; go_simp⟩) hH ?_
            simp only [Act.put, List.setIfInBounds_toArray, List.set_cons_zero, List.set_cons_succ]
            refine wpAnyH_ready (rs := [9]) (by kernel_rfl) (by simp) ?_
            refine AllReadyH.cons rfl (fun K hK => ?_) AllReadyH.nil
            have z0 := cell_of_block hV0 0
            have z1 := cell_of_block hV0 1
            have z2 := cell_of_block hV0 2
            have zf := frozen_of_block hV0
            simp at z0 z1 z2
            obtain ⟨hVE, hbV⟩ := puzzle_stored (B := w11.heap.size) hV0 hgeV (.int .i64 X) (.int .i64 Y) (.slice aR D.length cR)
            have hRE := hRE0.put3 (x := .int .i64 X) (y := .int .i64 Y) (z := .slice aR D.length cR) hV0
            have hbE := (hbc3).trans hbV
            go_simp
            refine hK.out _ _ (And.intro (rgA_later hS0.1 hbE) (rgA_later hS0.2 hbE)) (fun hH => ?_)
            clear hK K
            refine wpAnyH_ready (rs := [10]) (by kernel_rfl) (by simp) ?_
            refine AllReadyH.cons rfl (fun K hK => ?_) AllReadyH.nil
            go_simp
            refine hK.out _ _ (And.intro (rgA_later hS0.1 hbE) (rgA_later hS0.2 hbE)) (fun hH => ?_)
            clear hK K
            refine wpAnyH_done (by kernel_rfl) ?_ _
            refine ⟨.agg #[.int .i64 x, .int .i64 y, .slice a cs.length cap], .agg #[.int .i64 x, .int .i64 y, .slice aS cs.length cS], .agg #[.int .i64 c.k, .int .i64 c.a, .int .i64 c.b], .agg #[.int .i64 c.k, .int .i64 c.a, .int .i64 c.b], .tuple #[.agg #[.int .i64 X, .int .i64 Y, .slice aR D.length cR], .bool R], .tuple #[.agg #[.int .i64 X, .int .i64 Y, .slice aR D.length cR], .bool R], .agg #[.int .i64 X, .int .i64 Y, .slice aR D.length cR], .bool R, aR, cR, w121.heap.size, ?_, hgeV, hbE, hVE, hRE⟩
            first | rfl | (simp only [Act.put, List.setIfInBounds_toArray, List.set_cons_zero, List.set_cons_succ]; rfl) | skip
        · go_simp
          have hV0 : ((w120).alloc (.cells #[.int .i64 0, .int .i64 0, .slice none 0 0] 30)).heap[w120.heap.size]? = some (.cells #[.int .i64 0, .int .i64 0, .slice none 0 0] 30) := heap_alloc_new (w120) (.cells #[.int .i64 0, .int .i64 0, .slice none 0 0] 30)
          have hA0 : Below (w120).heap.size (w120) ((w120).alloc (.cells #[.int .i64 0, .int .i64 0, .slice none 0 0] 30)) := (Below.refl _ _).alloc (Nat.le_refl _) _
          have hbA1 := (hbc0).trans (hA0.mono (hbc0).size)
          have hgeV : w11.heap.size ≤ w120.heap.size := (hbc0).size
          have hSA := (And.intro (rgA_later hS0.1 hbA1) (rgA_later hS0.2 hbA1) : (fun (w' : World) => w'.rangeAt w.heap.size 0 [.int .i64 x, .int .i64 y, .slice a cs.length cap] ∧ w'.rangeAt (w.heap.size + 1) 0 [.int .i64 c.k, .int .i64 c.a, .int .i64 c.b]) ((w120).alloc (.cells #[.int .i64 0, .int .i64 0, .slice none 0 0] 30)))
          refine hK.out _ _ hSA (fun hH => ?_)
          clear hK K
          have hRS := hRS.later2 hA0
          refine wpAnyH_ready (rs := [3]) (by kernel_rfl) (by simp) ?_
          refine AllReadyH.cons rfl (fun K hK => ?_) AllReadyH.nil
          go_simp
          refine (HTC.out _).mono ?_
          rintro e w122 ⟨rfl, hbS⟩
          have hbc2 := (hbA1).trans (hbS.mono (hbA1).size)
          have hV0 := (hbS.block _ (block_lt hV0)).trans hV0
          have hRS := hRS.below hbS
          go_wp2_with fail
          refine hK.out _ _ (And.intro (rgA_later hS0.1 hbc2) (rgA_later hS0.2 hbc2)) (fun hH => ?_)
          clear hK K
          refine wpAnyH_ready (rs := [4]) (by kernel_rfl) (by simp) ?_
          refine AllReadyH.cons rfl (fun K hK => ?_) AllReadyH.nil
          go_simp
          refine (HI.out aS _ cS _ rfl hRS.cap.1 hRS.cap.2 hRS.at).mono ?_
          rintro e w123 ⟨vR, rfl, hRE0, hbS⟩
          obtain ⟨aR, cR, hv⟩ := hRE0.shape
          subst hv
          have hRE0 := hRE0.mono (hbc2).size
          have hbc3 := (hbc2).trans (hbS.mono (hbc2).size)
          have hV0 := (hbS.block _ (block_lt hV0)).trans hV0
          go_wp2_with fail
          refine hK.out _ _ (And.intro (rgA_later hS0.1 hbc3) (rgA_later hS0.2 hbc3)) (fun hH => ?_)
          clear hK K
          refine wpAnyH_take (i := 5) (v := .tuple #[.agg #[.int .i64 X, .int .i64 Y, .slice aR D.length cR], .bool R]) rfl (by kernel_rfl) (by kernel_rfl) (by kernel_rfl) (fun _ _ _ h => h) (Or.inl ⟨by rfl, fun w' _ => by unfold execOp; go_simp⟩) hH ?_
          simp only [Act.put, List.setIfInBounds_toArray, List.set_cons_zero, List.set_cons_succ]
          refine wpAnyH_take (i := 6) (v := .agg #[.int .i64 X, .int .i64 Y, .slice aR D.length cR]) rfl (by kernel_rfl) (by kernel_rfl) (by kernel_rfl) (fun _ _ _ h => h) (Or.inl ⟨by rfl, fun w' _ => by unfold execOp; go_simp⟩) hH ?_
          simp only [Act.put, List.setIfInBounds_toArray, List.set_cons_zero, List.set_cons_succ]
          refine wpAnyH_take (i := 7) (v := .bool R) rfl (by kernel_rfl) (by kernel_rfl) (by kernel_rfl) (fun _ _ _ h => h) (Or.inl ⟨by rfl, fun w' _ => by unfold execOp; go_simp⟩) hH ?_
          simp only [Act.put, List.setIfInBounds_toArray, List.set_cons_zero, List.set_cons_succ]
          refine wpAnyH_ready (rs := [9]) (by kernel_rfl) (by simp) ?_
          refine AllReadyH.cons rfl (fun K hK => ?_) AllReadyH.nil
          have z0 := cell_of_block hV0 0
          have z1 := cell_of_block hV0 1
          have z2 := cell_of_block hV0 2
          have zf := frozen_of_block hV0
          simp at z0 z1 z2
          obtain ⟨hVE, hbV⟩ := puzzle_stored (B := w11.heap.size) hV0 hgeV (.int .i64 X) (.int .i64 Y) (.slice aR D.length cR)
          have hRE := hRE0.put3 (x := .int .i64 X) (y := .int .i64 Y) (z := .slice aR D.length cR) hV0
          have hbE := (hbc3).trans hbV
          go_simp
          refine hK.out _ _ (And.intro (rgA_later hS0.1 hbE) (rgA_later hS0.2 hbE)) (fun hH => ?_)
          clear hK K
          refine wpAnyH_ready (rs := [10]) (by kernel_rfl) (by simp) ?_
          refine AllReadyH.cons rfl (fun K hK => ?_) AllReadyH.nil
          go_simp
          refine hK.out _ _ (And.intro (rgA_later hS0.1 hbE) (rgA_later hS0.2 hbE)) (fun hH => ?_)
          clear hK K
          refine wpAnyH_done (by kernel_rfl) ?_ _
          refine ⟨.agg #[.int .i64 x, .int .i64 y, .slice a cs.length cap], .agg #[.int .i64 x, .int .i64 y, .slice aS cs.length cS], .agg #[.int .i64 c.k, .int .i64 c.a, .int .i64 c.b], .agg #[.int .i64 c.k, .int .i64 c.a, .int .i64 c.b], .tuple #[.agg #[.int .i64 X, .int .i64 Y, .slice aR D.length cR], .bool R], .tuple #[.agg #[.int .i64 X, .int .i64 Y, .slice aR D.length cR], .bool R], .agg #[.int .i64 X, .int .i64 Y, .slice aR D.length cR], .bool R, aR, cR, w120.heap.size, ?_, hgeV, hbE, hVE, hRE⟩
          first | rfl | (simp only [Act.put, List.setIfInBounds_toArray, List.set_cons_zero, List.set_cons_succ]; rfl) | skip
      · go_simp
        have hV0 : ((w11.drew).alloc (.cells #[.int .i64 0, .int .i64 0, .slice none 0 0] 30)).heap[w11.heap.size]? = some (.cells #[.int .i64 0, .int .i64 0, .slice none 0 0] 30) := heap_alloc_new (w11.drew) (.cells #[.int .i64 0, .int .i64 0, .slice none 0 0] 30)
        have hA0 : Below (w11.drew).heap.size (w11.drew) ((w11.drew).alloc (.cells #[.int .i64 0, .int .i64 0, .slice none 0 0] 30)) := (Below.refl _ _).alloc (Nat.le_refl _) _
        have hbA0 := ((Below.refl w11.heap.size w11).drew).trans (hA0.mono ((Below.refl w11.heap.size w11).drew).size)
        have hgeV : w11.heap.size ≤ w11.heap.size := ((Below.refl w11.heap.size w11).drew).size
        have hSA := (And.intro (rgA_later hS0.1 hbA0) (rgA_later hS0.2 hbA0) : (fun (w' : World) => w'.rangeAt w.heap.size 0 [.int .i64 x, .int .i64 y, .slice a cs.length cap] ∧ w'.rangeAt (w.heap.size + 1) 0 [.int .i64 c.k, .int .i64 c.a, .int .i64 c.b]) ((w11.drew).alloc (.cells #[.int .i64 0, .int .i64 0, .slice none 0 0] 30)))
        refine hK.out _ _ hSA (fun hH => ?_)
        clear hK K
        refine wpAnyH_ready (rs := [1]) (by kernel_rfl) (by simp) ?_
        refine AllReadyH.cons rfl (fun K hK => ?_) AllReadyH.nil
        go_simp
        refine (HTP.out _ (HAT.out.later rfl (B11.out.trans ((hbA0).mono B11.out.size)))).mono ?_
        rintro e w121 ⟨vS, rfl, hRS, hbS⟩
        obtain ⟨aS, cS, hv⟩ := hRS.shape
        subst hv
        have hbc1 := (hbA0).trans (hbS.mono (hbA0).size)
        have hV0 := (hbS.block _ (block_lt hV0)).trans hV0
        go_wp2_with fail
        refine hK.out _ _ (And.intro (rgA_later hS0.1 hbc1) (rgA_later hS0.2 hbc1)) (fun hH => ?_)
        clear hK K
        refine wpAnyH_ready (rs := [3]) (by kernel_rfl) (by simp) ?_
        refine AllReadyH.cons rfl (fun K hK => ?_) AllReadyH.nil
        go_simp
        refine (HTC.out _).mono ?_
        rintro e w122 ⟨rfl, hbS⟩
        have hbc2 := (hbc1).trans (hbS.mono (hbc1).size)
        have hV0 := (hbS.block _ (block_lt hV0)).trans hV0
        have hRS := hRS.below hbS
        go_wp2_with fail
        refine hK.out _ _ (And.intro (rgA_later hS0.1 hbc2) (rgA_later hS0.2 hbc2)) (fun hH => ?_)
        clear hK K
        refine wpAnyH_ready (rs := [4]) (by kernel_rfl) (by simp) ?_
        refine AllReadyH.cons rfl (fun K hK => ?_) AllReadyH.nil
        go_simp
        refine (HI.out aS _ cS _ rfl hRS.cap.1 hRS.cap.2 hRS.at).mono ?_
        rintro e w123 ⟨vR, rfl, hRE0, hbS⟩
        obtain ⟨aR, cR, hv⟩ := hRE0.shape
        subst hv
        have hRE0 := hRE0.mono (hbc2).size
        have hbc3 := (hbc2).trans (hbS.mono (hbc2).size)
        have hV0 := (hbS.block _ (block_lt hV0)).trans hV0
        go_wp2_with fail
        refine hK.out _ _ (And.intro (rgA_later hS0.1 hbc3) (rgA_later hS0.2 hbc3)) (fun hH => ?_)
        clear hK K
        refine wpAnyH_take (i := 5) (v := .tuple #[.agg #[.int .i64 X, .int .i64 Y, .slice aR D.length cR], .bool R]) rfl (by kernel_rfl) (by kernel_rfl) (by kernel_rfl) (fun _ _ _ h => h) (Or.inl ⟨by rfl, fun w' _ => by unfold execOp; go_simp⟩) hH ?_
        simp only [Act.put, List.setIfInBounds_toArray, List.set_cons_zero, List.set_cons_succ]
        refine wpAnyH_take (i := 6) (v := .agg #[.int .i64 X, .int .i64 Y, .slice aR D.length cR]) rfl (by kernel_rfl) (by kernel_rfl) (by kernel_rfl) (fun _ _ _ h => h) (Or.inl ⟨by rfl, fun w' _ => by unfold execOp; go_simp⟩) hH ?_
        simp only [Act.put, List.setIfInBounds_toArray, List.set_cons_zero, List.set_cons_succ]
        refine wpAnyH_take (i := 7) (v := .bool R) rfl (by kernel_rfl) (by kernel_rfl) (by kernel_rfl) (fun _ _ _ h => h) (Or.inl ⟨by rfl, fun w' _ => by unfold execOp; go_simp⟩) hH ?_
        simp only [Act.put, List.setIfInBounds_toArray, List.set_cons_zero, List.set_cons_succ]
        refine wpAnyH_ready (rs := [9]) (by kernel_rfl) (by simp) ?_
        refine AllReadyH.cons rfl (fun K hK => ?_) AllReadyH.nil
        have z0 := cell_of_block hV0 0
        have z1 := cell_of_block hV0 1
        have z2 := cell_of_block hV0 2
        have zf := frozen_of_block hV0
        simp at z0 z1 z2
        obtain ⟨hVE, hbV⟩ := puzzle_stored (B := w11.heap.size) hV0 hgeV (.int .i64 X) (.int .i64 Y) (.slice aR D.length cR)
        have hRE := hRE0.put3 (x := .int .i64 X) (y := .int .i64 Y) (z := .slice aR D.length cR) hV0
        have hbE := (hbc3).trans hbV
        go_simp
        refine hK.out _ _ (And.intro (rgA_later hS0.1 hbE) (rgA_later hS0.2 hbE)) (fun hH => ?_)
        clear hK K
        refine wpAnyH_ready (rs := [10]) (by kernel_rfl) (by simp) ?_
        refine AllReadyH.cons rfl (fun K hK => ?_) AllReadyH.nil
        go_simp
        refine hK.out _ _ (And.intro (rgA_later hS0.1 hbE) (rgA_later hS0.2 hbE)) (fun hH => ?_)
        clear hK K
        refine wpAnyH_done (by kernel_rfl) ?_ _
        refine ⟨.agg #[.int .i64 x, .int .i64 y, .slice a cs.length cap], .agg #[.int .i64 x, .int .i64 y, .slice aS cs.length cS], .agg #[.int .i64 c.k, .int .i64 c.a, .int .i64 c.b], .agg #[.int .i64 c.k, .int .i64 c.a, .int .i64 c.b], .tuple #[.agg #[.int .i64 X, .int .i64 Y, .slice aR D.length cR], .bool R], .tuple #[.agg #[.int .i64 X, .int .i64 Y, .slice aR D.length cR], .bool R], .agg #[.int .i64 X, .int .i64 Y, .slice aR D.length cR], .bool R, aR, cR, w11.heap.size, ?_, hgeV, hbE, hVE, hRE⟩
        first | rfl | (simp only [Act.put, List.setIfInBounds_toArray, List.set_cons_zero, List.set_cons_succ]; rfl) | skip
    rintro a' w12 ⟨u80, u81, u82, u83, u84, u79, u85, u86, aP, cP, NP, rfl, hgeP, hb12, hN12, hRP⟩
    simp only [Act.put, List.setIfInBounds_toArray, List.set_cons_zero, List.set_cons_succ]
    have KG12 := Lib.hid ((hb12.block _ (block_lt KG11.out)).trans KG11.out)
    have KC12 := Lib.hid ((hb12.block _ (block_lt KC11.out)).trans KC11.out)
    have KV12 := Lib.hid ((hb12.block _ (block_lt KV11.out)).trans KV11.out)
    have KX12 := Lib.hid ((hb12.block _ (block_lt KX11.out)).trans KX11.out)
    have KH12 := Lib.hid ((hb12.block _ (block_lt KH11.out)).trans KH11.out)
    have AM12 := Lib.hid (AM11.out.later rfl hb12)
    have RX12 := Lib.hid (RX11.out.below hb12)
    have RH12 := Lib.hid (RH11.out.below hb12)
    have B12 := Lib.hid (B11.out.trans (hb12.mono B11.out.size))
    clear hb12 KG11 KC11 KV11 KX11 KH11 AM11 RX11 RH11 B11
    have KP12 := Lib.hid hN12
    have RP12 := Lib.hid hRP
    clear hN12 hRP
    have fG0 := cell_of_block KG12.out 0
    have fG1 := cell_of_block KG12.out 1
    have fG2 := cell_of_block KG12.out 2
    have fC0 := cell_of_block KC12.out 0
    have fC1 := cell_of_block KC12.out 1
    have fC2 := cell_of_block KC12.out 2
    have fV0 := cell_of_block KV12.out 0
    have fV1 := cell_of_block KV12.out 1
    have fV2 := cell_of_block KV12.out 2
    have fX0 := cell_of_block KX12.out 0
    have fX1 := cell_of_block KX12.out 1
    have fX2 := cell_of_block KX12.out 2
    have fH0 := cell_of_block KH12.out 0
    have fH1 := cell_of_block KH12.out 1
    have fH2 := cell_of_block KH12.out 2
    have fP0 := cell_of_block KP12.out 0
    have fP1 := cell_of_block KP12.out 1
    have fP2 := cell_of_block KP12.out 2
    simp at fG0 fG1 fG2 fC0 fC1 fC2 fV0 fV1 fV2 fX0 fX1 fX2 fH0 fH1 fH2 fP0 fP1 fP2
    go_wp2_with fail
    clear fG0 fG1 fG2 fC0 fC1 fC2 fV0 fV1 fV2 fX0 fX1 fX2 fH0 fH1 fH2 fP0 fP1 fP2
    refine (HED.out aP aM _ _ cP cM w12 rfl rfl RP12.out.at AM12.out).mono ?_
    rintro e w13 ⟨rfl, hb13⟩
    have KG13 := Lib.hid ((hb13.block _ (block_lt KG12.out)).trans KG12.out)
    have KC13 := Lib.hid ((hb13.block _ (block_lt KC12.out)).trans KC12.out)
    have KV13 := Lib.hid ((hb13.block _ (block_lt KV12.out)).trans KV12.out)
    have KX13 := Lib.hid ((hb13.block _ (block_lt KX12.out)).trans KX12.out)
    have KH13 := Lib.hid ((hb13.block _ (block_lt KH12.out)).trans KH12.out)
    have KP13 := Lib.hid ((hb13.block _ (block_lt KP12.out)).trans KP12.out)
    have AM13 := Lib.hid (AM12.out.later rfl hb13)
    have RX13 := Lib.hid (RX12.out.below hb13)
    have RH13 := Lib.hid (RH12.out.below hb13)
    have RP13 := Lib.hid (RP12.out.below hb13)
    have B13 := Lib.hid (B12.out.trans (hb13.mono B12.out.size))
    clear hb13 KG12 KC12 KV12 KX12 KH12 KP12 AM12 RX12 RH12 RP12 B12
    have fG0 := cell_of_block KG13.out 0
    have fG1 := cell_of_block KG13.out 1
    have fG2 := cell_of_block KG13.out 2
    have fC0 := cell_of_block KC13.out 0
    have fC1 := cell_of_block KC13.out 1
    have fC2 := cell_of_block KC13.out 2
    have fV0 := cell_of_block KV13.out 0
    have fV1 := cell_of_block KV13.out 1
    have fV2 := cell_of_block KV13.out 2
    have fX0 := cell_of_block KX13.out 0
    have fX1 := cell_of_block KX13.out 1
    have fX2 := cell_of_block KX13.out 2
    have fH0 := cell_of_block KH13.out 0
    have fH1 := cell_of_block KH13.out 1
    have fH2 := cell_of_block KH13.out 2
    have fP0 := cell_of_block KP13.out 0
    have fP1 := cell_of_block KP13.out 1
    have fP2 := cell_of_block KP13.out 2
    simp at fG0 fG1 fG2 fC0 fC1 fC2 fV0 fV1 fV2 fX0 fX1 fX2 fH0 fH1 fH2 fP0 fP1 fP2
    go_wp2_with fail
    clear fG0 fG1 fG2 fC0 fC1 fC2 fV0 fV1 fV2 fX0 fX1 fX2 fH0 fH1 fH2 fP0 fP1 fP2
    refine (HHG.out aH cH w13 RH13.out.at).mono ?_
    rintro e w14 ⟨rfl, hb14⟩
    have KG14 := Lib.hid ((hb14.block _ (block_lt KG13.out)).trans KG13.out)
    have KC14 := Lib.hid ((hb14.block _ (block_lt KC13.out)).trans KC13.out)
    have KV14 := Lib.hid ((hb14.block _ (block_lt KV13.out)).trans KV13.out)
    have KX14 := Lib.hid ((hb14.block _ (block_lt KX13.out)).trans KX13.out)
    have KH14 := Lib.hid ((hb14.block _ (block_lt KH13.out)).trans KH13.out)
    have KP14 := Lib.hid ((hb14.block _ (block_lt KP13.out)).trans KP13.out)
    have AM14 := Lib.hid (AM13.out.later rfl hb14)
    have RX14 := Lib.hid (RX13.out.below hb14)
    have RH14 := Lib.hid (RH13.out.below hb14)
    have RP14 := Lib.hid (RP13.out.below hb14)
    have B14 := Lib.hid (B13.out.trans (hb14.mono B13.out.size))
    clear hb14 KG13 KC13 KV13 KX13 KH13 KP13 AM13 RX13 RH13 RP13 B13
    go_wp2_with fail
    go_ret
    exact ⟨rfl, B14.out⟩
end Go.Proofs.Ythlbplmghjaeoaa
