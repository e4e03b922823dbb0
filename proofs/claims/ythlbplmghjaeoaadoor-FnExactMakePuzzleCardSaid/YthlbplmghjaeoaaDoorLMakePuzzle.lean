/- The law FnExactMakePuzzle holds at every argument. -/
import Derived.Test.YthlbplmghjaeoaaDoorBD
import Derived.Test.YthlbplmghjaeoaaDoorBF
import Derived.Test.YthlbplmghjaeoaaDoorA9
import Derived.Test.YthlbplmghjaeoaaDoorAD
import Derived.Deep.DeepCutAuto
import Derived.Outline
namespace Go.Proofs.YthlbplmghjaeoaaDoor
open Go.RowKit

set_option maxRecDepth 100000 in
set_option maxHeartbeats 4000000 in
theorem law_MakePuzzle (l : List UInt8) (n s : Int) (w : World) (hM : HasMax w) (hs0 : l.length ≤ 9223372036854775807) :
    Calls Tryd.prog 4 #[.string ⟨l.toArray⟩, .int .i64 n, .int .i64 s] w fun e w' => e = .returned (.bool true) ∧ Below w.heap.size w w' := by
  by_cases hl : l.length ≤ 1048576
  case neg =>
    have hl' : 1048576 < l.length := by omega
    clear hl
    go_enter Tryd.func4, Tryd.ntmps4
    go_wp2_with fail
    go_ret
    exact ⟨rfl, Below.refl _ _⟩
  have HS := Lib.hid (fun w => sMake_any l n s w hl)
  have HI := Lib.hid (fun w hM => iMake_any l n s w hM hl)
  have hD : (mpC l n s).length ≤ 8 := mpC_len l n s
  generalize ((mpX l n s : Nat) : Int) = X at *
  generalize ((mpY l n s : Nat) : Int) = Y at *
  generalize mpB l n s = R at *
  generalize mpC l n s = D at *
  have HM := Lib.hid hM
  have HED := Lib.hid (fun a' b' n' m' c' d' w hn hm h1 h2 => eqPuzzle_same X Y D a' b' n' m' c' d' w hn hm h1 h2 (by omega))
  have HMG := Lib.hid (fun B' a' n' c' w hn h => markPuzzle_own X Y B' a' D n' c' w hn h (by omega))
  have HHG := Lib.hid (fun a' c' w h => heldPuzzle_seq X Y a' D.length c' w h (by omega))
  have hdr : ∀ b : Bool, (b != b) = false := fun b => by cases b <;> rfl
  have hdi : ∀ n : Int, (n != n) = false := fun n => by simp
  have hq2 : ¬ (1 + 3 * (D.length : Int) < 0) := by omega
  clear hM
  go_enter Tryd.func4, Tryd.ntmps4
  go_wp2_with fail
  refine (HS.out _).mono ?_
  rintro e w1 ⟨vM, rfl, hRM, hb1⟩
  obtain ⟨aM, cM, hv⟩ := hRM.shape
  subst hv
  have B1 := Lib.hid hb1
  clear hb1
  have hltM : ∀ ad, aM = some ad → ad.block < w1.heap.size := fun ad h => (hRM.lt ad h).2
  go_upto_region 3 with fail
  have hbn : Below w1.heap.size w1 (w1.alloc (.cells #[.int .i64 X, .int .i64 Y, .slice aM D.length cM] 31)) := (Below.refl _ _).alloc (Nat.le_refl _) _
  have hNn := heap_alloc_new w1 (.cells #[.int .i64 X, .int .i64 Y, .slice aM D.length cM] 31)
  have hRn := hRM.below hbn
  clear hRM
  have hsw1 : w.heap.size ≤ w1.heap.size := B1.out.size
  generalize w1.alloc (.cells #[.int .i64 X, .int .i64 Y, .slice aM D.length cM] 31) = w2 at *
  generalize hNe : w1.heap.size = N1 at *
  have HNe := Lib.hid hNe
  clear hNe
  have B2 := Lib.hid (B1.out.trans (hbn.mono (HNe.out ▸ B1.out.size)))
  clear hbn B1
  have KV2 := Lib.hid hNn
  have RM2 := Lib.hid hRn
  clear hNn hRn HNe
  have hNS1 : N1 ≤ w2.heap.size := Nat.le_of_lt (block_lt KV2.out)
  have fV0 := cell_of_block KV2.out 0
  have fV1 := cell_of_block KV2.out 1
  have fV2 := cell_of_block KV2.out 2
  simp at fV0 fV1 fV2
  go_wp2_with fail
  clear fV0 fV1 fV2
  refine (HI.out w2 (HM.out.later B2.out)).mono ?_
  rintro e w3 ⟨vH, rfl, hRH, hbn⟩
  obtain ⟨aH, cH, hv⟩ := hRH.shape
  subst hv
  have KV3 := Lib.hid ((hbn.block _ (block_lt KV2.out)).trans KV2.out)
  have RM3 := Lib.hid (RM2.out.below hbn)
  have B3 := Lib.hid (B2.out.trans (hbn.mono B2.out.size))
  clear hbn KV2 RM2 B2
  have hgeH : ∀ ad, aH = some ad → N1 ≤ ad.block := fun ad h => Nat.le_trans hNS1 (hRH.lt ad h).1
  go_upto_region 5 with fail
  have hbn : Below w3.heap.size w3 (w3.alloc (.cells #[.int .i64 X, .int .i64 Y, .slice aH D.length cH] 31)) := (Below.refl _ _).alloc (Nat.le_refl _) _
  have hNn := heap_alloc_new w3 (.cells #[.int .i64 X, .int .i64 Y, .slice aH D.length cH] 31)
  have hRn := hRH.below hbn
  clear hRH
  have hsw3 : w.heap.size ≤ w3.heap.size := B3.out.size
  generalize w3.alloc (.cells #[.int .i64 X, .int .i64 Y, .slice aH D.length cH] 31) = w4 at *
  generalize hNe : w3.heap.size = N3 at *
  have HNe := Lib.hid hNe
  clear hNe
  have KV4 := Lib.hid ((hbn.block _ (by rw [← HNe.out]; exact block_lt KV3.out)).trans KV3.out)
  have RM4 := Lib.hid (RM3.out.below (HNe.out ▸ hbn))
  have B4 := Lib.hid (B3.out.trans (hbn.mono (HNe.out ▸ B3.out.size)))
  clear hbn KV3 RM3 B3
  have KH4 := Lib.hid hNn
  have RH4 := Lib.hid hRn
  clear hNn hRn HNe
  have fV0 := cell_of_block KV4.out 0
  have fV1 := cell_of_block KV4.out 1
  have fV2 := cell_of_block KV4.out 2
  have fH0 := cell_of_block KH4.out 0
  have fH1 := cell_of_block KH4.out 1
  have fH2 := cell_of_block KH4.out 2
  simp at fV0 fV1 fV2 fH0 fH1 fH2
  go_wp2_with fail
  clear fV0 fV1 fV2 fH0 fH1 fH2
  refine (HED.out aH aM _ _ cH cM w4 rfl rfl RH4.out.at RM4.out.at).mono ?_
  rintro e w5 ⟨rfl, hbn⟩
  have KV5 := Lib.hid ((hbn.block _ (block_lt KV4.out)).trans KV4.out)
  have KH5 := Lib.hid ((hbn.block _ (block_lt KH4.out)).trans KH4.out)
  have RM5 := Lib.hid (RM4.out.below hbn)
  have RH5 := Lib.hid (RH4.out.below hbn)
  have B5 := Lib.hid (B4.out.trans (hbn.mono B4.out.size))
  clear hbn KV4 KH4 RM4 RH4 B4
  have fV0 := cell_of_block KV5.out 0
  have fV1 := cell_of_block KV5.out 1
  have fV2 := cell_of_block KV5.out 2
  have fH0 := cell_of_block KH5.out 0
  have fH1 := cell_of_block KH5.out 1
  have fH2 := cell_of_block KH5.out 2
  simp at fV0 fV1 fV2 fH0 fH1 fH2
  go_wp2_with fail
  clear fV0 fV1 fV2 fH0 fH1 fH2
  refine (HMG.out _ aH _ cH w5 rfl RH5.out).mono ?_
  rintro e w6 ⟨rfl, hRm, hbm⟩
  have KV6 := Lib.hid ((hbm.block _ (block_lt KV5.out) (RH5.out.ne KV5.out (by decide))).trans KV5.out)
  have KH6 := Lib.hid ((hbm.block _ (block_lt KH5.out) (RH5.out.ne KH5.out (by decide))).trans KH5.out)
  have RM6 := Lib.hid (RM5.out.spares hbm (fun ad ad' h h' => by have h1 := hgeH ad h; have h2 := hltM ad' h'; omega))
  have B6 := Lib.hid (B5.out.trans ((hbm.below B5.out.size (fun ad h => Nat.le_trans hsw1 (hgeH ad h))).mono (Nat.le_refl _)))
  clear hbm KV5 KH5 RM5 B5 RH5
  have RH6 := Lib.hid hRm
  clear hRm
  have fV0 := cell_of_block KV6.out 0
  have fV1 := cell_of_block KV6.out 1
  have fV2 := cell_of_block KV6.out 2
  have fH0 := cell_of_block KH6.out 0
  have fH1 := cell_of_block KH6.out 1
  have fH2 := cell_of_block KH6.out 2
  simp at fV0 fV1 fV2 fH0 fH1 fH2
  go_wp2_with fail
  clear fV0 fV1 fV2 fH0 fH1 fH2
  refine (HHG.out aH cH w6 RH6.out.at).mono ?_
  rintro e w7 ⟨rfl, hbn⟩
  have KV7 := Lib.hid ((hbn.block _ (block_lt KV6.out)).trans KV6.out)
  have KH7 := Lib.hid ((hbn.block _ (block_lt KH6.out)).trans KH6.out)
  have RM7 := Lib.hid (RM6.out.below hbn)
  have RH7 := Lib.hid (RH6.out.below hbn)
  have B7 := Lib.hid (B6.out.trans (hbn.mono B6.out.size))
  clear hbn KV6 KH6 RM6 RH6 B6
  have fV0 := cell_of_block KV7.out 0
  have fV1 := cell_of_block KV7.out 1
  have fV2 := cell_of_block KV7.out 2
  have fH0 := cell_of_block KH7.out 0
  have fH1 := cell_of_block KH7.out 1
  have fH2 := cell_of_block KH7.out 2
  simp at fV0 fV1 fV2 fH0 fH1 fH2
  go_wp2_with fail
  clear fV0 fV1 fV2 fH0 fH1 fH2
  refine (HI.out w7 (HM.out.later B7.out)).mono ?_
  rintro e w8 ⟨vP, rfl, hRP, hbn⟩
  obtain ⟨aP, cP, hv⟩ := hRP.shape
  subst hv
  have KV8 := Lib.hid ((hbn.block _ (block_lt KV7.out)).trans KV7.out)
  have KH8 := Lib.hid ((hbn.block _ (block_lt KH7.out)).trans KH7.out)
  have RM8 := Lib.hid (RM7.out.below hbn)
  have RH8 := Lib.hid (RH7.out.below hbn)
  have B8 := Lib.hid (B7.out.trans (hbn.mono B7.out.size))
  clear hbn KV7 KH7 RM7 RH7 B7
  go_upto_region 16 with fail
  have hbn : Below w8.heap.size w8 (w8.alloc (.cells #[.int .i64 X, .int .i64 Y, .slice aP D.length cP] 31)) := (Below.refl _ _).alloc (Nat.le_refl _) _
  have hNn := heap_alloc_new w8 (.cells #[.int .i64 X, .int .i64 Y, .slice aP D.length cP] 31)
  have hRn := hRP.below hbn
  clear hRP
  have hsw8 : w.heap.size ≤ w8.heap.size := B8.out.size
  generalize w8.alloc (.cells #[.int .i64 X, .int .i64 Y, .slice aP D.length cP] 31) = w9 at *
  generalize hNe : w8.heap.size = N4 at *
  have HNe := Lib.hid hNe
  clear hNe
  have KV9 := Lib.hid ((hbn.block _ (by rw [← HNe.out]; exact block_lt KV8.out)).trans KV8.out)
  have KH9 := Lib.hid ((hbn.block _ (by rw [← HNe.out]; exact block_lt KH8.out)).trans KH8.out)
  have RM9 := Lib.hid (RM8.out.below (HNe.out ▸ hbn))
  have RH9 := Lib.hid (RH8.out.below (HNe.out ▸ hbn))
  have B9 := Lib.hid (B8.out.trans (hbn.mono (HNe.out ▸ B8.out.size)))
  clear hbn KV8 KH8 RM8 RH8 B8
  have KP9 := Lib.hid hNn
  have RP9 := Lib.hid hRn
  clear hNn hRn HNe
  have fV0 := cell_of_block KV9.out 0
  have fV1 := cell_of_block KV9.out 1
  have fV2 := cell_of_block KV9.out 2
  have fH0 := cell_of_block KH9.out 0
  have fH1 := cell_of_block KH9.out 1
  have fH2 := cell_of_block KH9.out 2
  have fP0 := cell_of_block KP9.out 0
  have fP1 := cell_of_block KP9.out 1
  have fP2 := cell_of_block KP9.out 2
  simp at fV0 fV1 fV2 fH0 fH1 fH2 fP0 fP1 fP2
  go_wp2_with fail
  clear fV0 fV1 fV2 fH0 fH1 fH2 fP0 fP1 fP2
  refine (HED.out aP aM _ _ cP cM w9 rfl rfl RP9.out.at RM9.out.at).mono ?_
  rintro e w10 ⟨rfl, hbn⟩
  have KV10 := Lib.hid ((hbn.block _ (block_lt KV9.out)).trans KV9.out)
  have KH10 := Lib.hid ((hbn.block _ (block_lt KH9.out)).trans KH9.out)
  have KP10 := Lib.hid ((hbn.block _ (block_lt KP9.out)).trans KP9.out)
  have RM10 := Lib.hid (RM9.out.below hbn)
  have RH10 := Lib.hid (RH9.out.below hbn)
  have RP10 := Lib.hid (RP9.out.below hbn)
  have B10 := Lib.hid (B9.out.trans (hbn.mono B9.out.size))
  clear hbn KV9 KH9 KP9 RM9 RH9 RP9 B9
  have fV0 := cell_of_block KV10.out 0
  have fV1 := cell_of_block KV10.out 1
  have fV2 := cell_of_block KV10.out 2
  have fH0 := cell_of_block KH10.out 0
  have fH1 := cell_of_block KH10.out 1
  have fH2 := cell_of_block KH10.out 2
  have fP0 := cell_of_block KP10.out 0
  have fP1 := cell_of_block KP10.out 1
  have fP2 := cell_of_block KP10.out 2
  simp at fV0 fV1 fV2 fH0 fH1 fH2 fP0 fP1 fP2
  go_wp2_with fail
  clear fV0 fV1 fV2 fH0 fH1 fH2 fP0 fP1 fP2
  refine (HHG.out aH cH w10 RH10.out.at).mono ?_
  rintro e w11 ⟨rfl, hbn⟩
  have KV11 := Lib.hid ((hbn.block _ (block_lt KV10.out)).trans KV10.out)
  have KH11 := Lib.hid ((hbn.block _ (block_lt KH10.out)).trans KH10.out)
  have KP11 := Lib.hid ((hbn.block _ (block_lt KP10.out)).trans KP10.out)
  have RM11 := Lib.hid (RM10.out.below hbn)
  have RH11 := Lib.hid (RH10.out.below hbn)
  have RP11 := Lib.hid (RP10.out.below hbn)
  have B11 := Lib.hid (B10.out.trans (hbn.mono B10.out.size))
  clear hbn KV10 KH10 KP10 RM10 RH10 RP10 B10
  go_wp2_with fail
  go_ret
  exact ⟨rfl, B11.out⟩
end Go.Proofs.YthlbplmghjaeoaaDoor
