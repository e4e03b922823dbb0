/- The law FnExactHarderPuzzle holds at every argument. -/
import Derived.Test.YtnnbkbjhombblabAX
import Derived.Test.YtnnbkbjhombblabA9
import Derived.Test.YtnnbkbjhombblabAD
import Derived.Deep.DeepCutAuto
import Derived.Outline
namespace Go.Proofs.Ytnnbkbjhombblab
open Go.RowKit

set_option maxRecDepth 100000 in
set_option maxHeartbeats 4000000 in
theorem law_HarderPuzzle (x y : Int) (cs : List Clu) (a : Option Addr) (cap : Nat) (w : World) (hat : At w a (flatC cs)) (hc : cs.length ≤ 9223372036854775807) :
    Calls Try.prog 7 #[.agg #[.int .i64 x, .int .i64 y, .slice a cs.length cap]] w fun e w' => e = .returned (.bool true) ∧ Below w.heap.size w w' := by
  have hb : Below w.heap.size w (w.alloc (.cells #[.int .i64 x, .int .i64 y, .slice a cs.length cap] 24)) := (Below.refl _ _).alloc (Nat.le_refl _) _
  by_cases hl : cs.length ≤ 1048576
  case neg =>
    have HSZ := Lib.hid (fun w => szPuzzle_no x y a cs.length cap w (by omega) hc)
    go_enter Try.func7, Try.ntmps7
    go_wp2_with fail
    refine (HSZ.out _).mono ?_
    rintro e w1 ⟨rfl, hb1⟩
    have hB1 := hb.trans (hb1.mono hb.size)
    clear hb hb1
    go_wp2_with fail
    go_ret
    exact ⟨rfl, hB1⟩
  obtain ⟨X, Y, R, D, hD, hs, hi⟩ := core_HarderPuzzle x y cs hl
  have HS := Lib.hid hs
  have HI := Lib.hid hi
  have HSZ := Lib.hid (fun w => szPuzzle_yes x y a cs.length cap w hl)
  have HTP := Lib.hid (fun w h => toPuzzle_any x y cs a cap w h hl)
  have HE := Lib.hid (fun a' b' n' m' c' d' w hn hm h1 h2 => eqPuzzle_same x y cs a' b' n' m' c' d' w hn hm h1 h2 (by omega))
  have HED := Lib.hid (fun a' b' n' m' c' d' w hn hm h1 h2 => eqPuzzle_same X Y D a' b' n' m' c' d' w hn hm h1 h2 (by omega))
  have HMX := Lib.hid (fun B' a' n' c' w hn h => markPuzzle_own x y B' a' cs n' c' w hn h (by omega))
  have HMG := Lib.hid (fun B' a' n' c' w hn h => markPuzzle_own X Y B' a' D n' c' w hn h (by omega))
  have HHG := Lib.hid (fun a' c' w h => heldPuzzle_seq X Y a' D.length c' w h (by omega))
  have hdr : ∀ b : Bool, (b != b) = false := fun b => by cases b <;> rfl
  have hdi : ∀ n : Int, (n != n) = false := fun n => by simp
  have hq1 : ¬ (1 + 3 * (cs.length : Int) < 0) := by omega
  have hq2 : ¬ (1 + 3 * (D.length : Int) < 0) := by omega
  have HAT := Lib.hid hat
  clear hs hi hat
  have hG := heap_alloc_new w (.cells #[.int .i64 x, .int .i64 y, .slice a cs.length cap] 24)
  go_enter Try.func7, Try.ntmps7
  go_wp2_with fail
  generalize w.alloc (.cells #[.int .i64 x, .int .i64 y, .slice a cs.length cap] 24) = w0 at *
  have KG0 := Lib.hid hG
  have B0 := Lib.hid hb
  clear hG hb
  refine (HSZ.out _).mono ?_
  rintro e w1 ⟨m, rfl, hm, hb1⟩
  have hm0 : ¬ m < 0 := by omega
  clear hm
  have KG1 := Lib.hid ((hb1.block _ (block_lt KG0.out)).trans KG0.out)
  have B1 := Lib.hid (B0.out.trans (hb1.mono B0.out.size))
  clear hb1 KG0 B0
  have fG0 := cell_of_block KG1.out 0
  have fG1 := cell_of_block KG1.out 1
  have fG2 := cell_of_block KG1.out 2
  simp at fG0 fG1 fG2
  go_wp2_with fail
  clear fG0 fG1 fG2
  refine (HTP.out w1 (HAT.out.later rfl B1.out)).mono ?_
  rintro e w2 ⟨vS, rfl, hRS, hb2⟩
  obtain ⟨aS, cS, hv⟩ := hRS.shape
  subst hv
  have KG2 := Lib.hid ((hb2.block _ (block_lt KG1.out)).trans KG1.out)
  have B2 := Lib.hid (B1.out.trans (hb2.mono B1.out.size))
  clear hb2 KG1 B1
  go_wp2_with fail
  refine (HS.out aS _ cS w2 rfl hRS.cap.1 hRS.cap.2 hRS.at).mono ?_
  rintro e w3 ⟨vM, rfl, hRM, hb3⟩
  obtain ⟨aM, cM, hv⟩ := hRM.shape
  subst hv
  clear hRS
  have KG3 := Lib.hid ((hb3.block _ (block_lt KG2.out)).trans KG2.out)
  have B3 := Lib.hid (B2.out.trans (hb3.mono B2.out.size))
  clear hb3 KG2 B2
  have hltM : ∀ ad, aM = some ad → ad.block < w3.heap.size := fun ad h => (hRM.lt ad h).2
  go_upto_region 6 with fail
  have hb4 : Below w3.heap.size w3 (w3.alloc (.cells #[.int .i64 X, .int .i64 Y, .slice aM D.length cM] 30)) := (Below.refl _ _).alloc (Nat.le_refl _) _
  have hN4 := heap_alloc_new w3 (.cells #[.int .i64 X, .int .i64 Y, .slice aM D.length cM] 30)
  have hNw0 : w.heap.size ≤ w3.heap.size := B3.out.size
  have hAM4 := (hRM.below hb4).at
  clear hRM
  generalize hw4 : w3.alloc (.cells #[.int .i64 X, .int .i64 Y, .slice aM D.length cM] 30) = w4 at *
  clear hw4
  generalize hN1 : w3.heap.size = N1 at *
  have HN1 := Lib.hid hN1
  clear hN1
  have KG4 := Lib.hid ((hb4.block _ (by rw [← HN1.out]; exact block_lt KG3.out)).trans KG3.out)
  have B4 := Lib.hid (B3.out.trans (hb4.mono (HN1.out ▸ B3.out.size)))
  clear hb4 KG3 B3
  have KV4 := Lib.hid hN4
  have AM4 := Lib.hid hAM4
  have hNS1 : N1 ≤ w4.heap.size := Nat.le_of_lt (block_lt hN4)
  clear hN4 hAM4 HN1
  have fG0 := cell_of_block KG4.out 0
  have fG1 := cell_of_block KG4.out 1
  have fG2 := cell_of_block KG4.out 2
  have fV0 := cell_of_block KV4.out 0
  have fV1 := cell_of_block KV4.out 1
  have fV2 := cell_of_block KV4.out 2
  simp at fG0 fG1 fG2 fV0 fV1 fV2
  go_wp2_with fail
  clear fG0 fG1 fG2 fV0 fV1 fV2
  refine (HTP.out w4 (HAT.out.later rfl B4.out)).mono ?_
  rintro e w5 ⟨vX, rfl, hRX, hb5⟩
  obtain ⟨aX, cX, hv⟩ := hRX.shape
  subst hv
  have KG5 := Lib.hid ((hb5.block _ (block_lt KG4.out)).trans KG4.out)
  have KV5 := Lib.hid ((hb5.block _ (block_lt KV4.out)).trans KV4.out)
  have AM5 := Lib.hid (AM4.out.later rfl hb5)
  have B5 := Lib.hid (B4.out.trans (hb5.mono B4.out.size))
  clear hb5 KG4 KV4 AM4 B4
  have hgeX : ∀ ad, aX = some ad → N1 ≤ ad.block := fun ad h => Nat.le_trans hNS1 (hRX.lt ad h).1
  have hltX : ∀ ad, aX = some ad → ad.block < w5.heap.size := fun ad h => (hRX.lt ad h).2
  go_upto_region 7 with fail
  have hb6 : Below w5.heap.size w5 (w5.alloc (.cells #[.int .i64 x, .int .i64 y, .slice aX cs.length cX] 30)) := (Below.refl _ _).alloc (Nat.le_refl _) _
  have hN6 := heap_alloc_new w5 (.cells #[.int .i64 x, .int .i64 y, .slice aX cs.length cX] 30)
  have hN120 : N1 ≤ w5.heap.size := Nat.le_of_lt (block_lt KV5.out)
  have hRX6 := hRX.below hb6
  clear hRX
  generalize hw6 : w5.alloc (.cells #[.int .i64 x, .int .i64 y, .slice aX cs.length cX] 30) = w6 at *
  clear hw6
  generalize hN2 : w5.heap.size = N2 at *
  have HN2 := Lib.hid hN2
  clear hN2
  have KG6 := Lib.hid ((hb6.block _ (by rw [← HN2.out]; exact block_lt KG5.out)).trans KG5.out)
  have KV6 := Lib.hid ((hb6.block _ (by rw [← HN2.out]; exact block_lt KV5.out)).trans KV5.out)
  have AM6 := Lib.hid (AM5.out.later HN2.out.symm hb6)
  have B6 := Lib.hid (B5.out.trans (hb6.mono (HN2.out ▸ B5.out.size)))
  clear hb6 KG5 KV5 AM5 B5
  have KX6 := Lib.hid hN6
  have RX6 := Lib.hid hRX6
  have hNS2 : N2 ≤ w6.heap.size := Nat.le_of_lt (block_lt hN6)
  clear hN6 hRX6 HN2
  have fG0 := cell_of_block KG6.out 0
  have fG1 := cell_of_block KG6.out 1
  have fG2 := cell_of_block KG6.out 2
  have fV0 := cell_of_block KV6.out 0
  have fV1 := cell_of_block KV6.out 1
  have fV2 := cell_of_block KV6.out 2
  have fX0 := cell_of_block KX6.out 0
  have fX1 := cell_of_block KX6.out 1
  have fX2 := cell_of_block KX6.out 2
  simp at fG0 fG1 fG2 fV0 fV1 fV2 fX0 fX1 fX2
  go_wp2_with fail
  clear fG0 fG1 fG2 fV0 fV1 fV2 fX0 fX1 fX2
  refine (HI.out aX _ cX w6 rfl RX6.out.cap.1 RX6.out.cap.2 RX6.out.at).mono ?_
  rintro e w7 ⟨vH, rfl, hRH, hb7⟩
  obtain ⟨aH, cH, hv⟩ := hRH.shape
  subst hv
  have KG7 := Lib.hid ((hb7.block _ (block_lt KG6.out)).trans KG6.out)
  have KV7 := Lib.hid ((hb7.block _ (block_lt KV6.out)).trans KV6.out)
  have KX7 := Lib.hid ((hb7.block _ (block_lt KX6.out)).trans KX6.out)
  have AM7 := Lib.hid (AM6.out.later rfl hb7)
  have RX7 := Lib.hid (RX6.out.below hb7)
  have B7 := Lib.hid (B6.out.trans (hb7.mono B6.out.size))
  clear hb7 KG6 KV6 KX6 AM6 RX6 B6
  have hgeH : ∀ ad, aH = some ad → N2 ≤ ad.block := fun ad h => Nat.le_trans hNS2 (hRH.lt ad h).1
  go_upto_region 8 with fail
  have hb8 : Below w7.heap.size w7 (w7.alloc (.cells #[.int .i64 X, .int .i64 Y, .slice aH D.length cH] 30)) := (Below.refl _ _).alloc (Nat.le_refl _) _
  have hN8 := heap_alloc_new w7 (.cells #[.int .i64 X, .int .i64 Y, .slice aH D.length cH] 30)
  have hRH8 := hRH.below hb8
  clear hRH
  generalize hw8 : w7.alloc (.cells #[.int .i64 X, .int .i64 Y, .slice aH D.length cH] 30) = w8 at *
  clear hw8
  generalize hN3 : w7.heap.size = N3 at *
  have HN3 := Lib.hid hN3
  clear hN3
  have KG8 := Lib.hid ((hb8.block _ (by rw [← HN3.out]; exact block_lt KG7.out)).trans KG7.out)
  have KV8 := Lib.hid ((hb8.block _ (by rw [← HN3.out]; exact block_lt KV7.out)).trans KV7.out)
  have KX8 := Lib.hid ((hb8.block _ (by rw [← HN3.out]; exact block_lt KX7.out)).trans KX7.out)
  have AM8 := Lib.hid (AM7.out.later HN3.out.symm hb8)
  have RX8 := Lib.hid (RX7.out.below (HN3.out ▸ hb8))
  have B8 := Lib.hid (B7.out.trans (hb8.mono (HN3.out ▸ B7.out.size)))
  clear hb8 KG7 KV7 KX7 AM7 RX7 B7
  have KH8 := Lib.hid hN8
  have RH8 := Lib.hid hRH8
  clear hN8 hRH8 HN3
  have fG0 := cell_of_block KG8.out 0
  have fG1 := cell_of_block KG8.out 1
  have fG2 := cell_of_block KG8.out 2
  have fV0 := cell_of_block KV8.out 0
  have fV1 := cell_of_block KV8.out 1
  have fV2 := cell_of_block KV8.out 2
  have fX0 := cell_of_block KX8.out 0
  have fX1 := cell_of_block KX8.out 1
  have fX2 := cell_of_block KX8.out 2
  have fH0 := cell_of_block KH8.out 0
  have fH1 := cell_of_block KH8.out 1
  have fH2 := cell_of_block KH8.out 2
  simp at fG0 fG1 fG2 fV0 fV1 fV2 fX0 fX1 fX2 fH0 fH1 fH2
  go_wp2_with fail
  clear fG0 fG1 fG2 fV0 fV1 fV2 fX0 fX1 fX2 fH0 fH1 fH2
  refine (HED.out aH aM _ _ cH cM w8 rfl rfl RH8.out.at AM8.out).mono ?_
  rintro e w9 ⟨rfl, hb9⟩
  have KG9 := Lib.hid ((hb9.block _ (block_lt KG8.out)).trans KG8.out)
  have KV9 := Lib.hid ((hb9.block _ (block_lt KV8.out)).trans KV8.out)
  have KX9 := Lib.hid ((hb9.block _ (block_lt KX8.out)).trans KX8.out)
  have KH9 := Lib.hid ((hb9.block _ (block_lt KH8.out)).trans KH8.out)
  have AM9 := Lib.hid (AM8.out.later rfl hb9)
  have RX9 := Lib.hid (RX8.out.below hb9)
  have RH9 := Lib.hid (RH8.out.below hb9)
  have B9 := Lib.hid (B8.out.trans (hb9.mono B8.out.size))
  clear hb9 KG8 KV8 KX8 KH8 AM8 RX8 RH8 B8
  have fG0 := cell_of_block KG9.out 0
  have fG1 := cell_of_block KG9.out 1
  have fG2 := cell_of_block KG9.out 2
  have fV0 := cell_of_block KV9.out 0
  have fV1 := cell_of_block KV9.out 1
  have fV2 := cell_of_block KV9.out 2
  have fX0 := cell_of_block KX9.out 0
  have fX1 := cell_of_block KX9.out 1
  have fX2 := cell_of_block KX9.out 2
  have fH0 := cell_of_block KH9.out 0
  have fH1 := cell_of_block KH9.out 1
  have fH2 := cell_of_block KH9.out 2
  simp at fG0 fG1 fG2 fV0 fV1 fV2 fX0 fX1 fX2 fH0 fH1 fH2
  go_wp2_with fail
  go_region_law (first
    | (go_simp; go_at_call 10; refine (HTP.out _ (HAT.out.later rfl (ofDrewB B9.out))).mono ?_; rintro e w10 ⟨vZ, rfl, hRZ, hbZ⟩;
       obtain ⟨aZ, cZ, hvZ⟩ := hRZ.shape; subst hvZ; have HXZ := Lib.hid ((hbZ.block _ (block_lt KX9.out)).trans KX9.out);
       have yZ0 := cell_of_block HXZ.out 0; have yZ1 := cell_of_block HXZ.out 1; have yZ2 := cell_of_block HXZ.out 2; simp at yZ0 yZ1 yZ2)
    | (go_simp; go_at_call 12; refine (HE.out aX aZ _ _ cX cZ w10 rfl rfl (RX9.out.at.later rfl (ofDrewC hbZ)) hRZ.at).mono ?_; rintro e w11 ⟨rfl, hbY⟩))
  all_goals
    have hb10 : Below w9.heap.size w9 w11 := (ofDrewC hbZ).trans (hbY.mono (ofDrewC hbZ).size)
    clear hbZ hbY hRZ fG0 fG1 fG2 fV0 fV1 fV2 fX0 fX1 fX2 fH0 fH1 fH2
    try clear HXZ yZ0 yZ1 yZ2
    generalize w11 = w10' at *
    have KG10 := Lib.hid ((hb10.block _ (block_lt KG9.out)).trans KG9.out)
    have KV10 := Lib.hid ((hb10.block _ (block_lt KV9.out)).trans KV9.out)
    have KX10 := Lib.hid ((hb10.block _ (block_lt KX9.out)).trans KX9.out)
    have KH10 := Lib.hid ((hb10.block _ (block_lt KH9.out)).trans KH9.out)
    have AM10 := Lib.hid (AM9.out.later rfl hb10)
    have RX10 := Lib.hid (RX9.out.below hb10)
    have RH10 := Lib.hid (RH9.out.below hb10)
    have B10 := Lib.hid (B9.out.trans (hb10.mono B9.out.size))
    clear hb10 KG9 KV9 KX9 KH9 AM9 RX9 RH9 B9
    have fG0 := cell_of_block KG10.out 0
    have fG1 := cell_of_block KG10.out 1
    have fG2 := cell_of_block KG10.out 2
    have fV0 := cell_of_block KV10.out 0
    have fV1 := cell_of_block KV10.out 1
    have fV2 := cell_of_block KV10.out 2
    have fX0 := cell_of_block KX10.out 0
    have fX1 := cell_of_block KX10.out 1
    have fX2 := cell_of_block KX10.out 2
    have fH0 := cell_of_block KH10.out 0
    have fH1 := cell_of_block KH10.out 1
    have fH2 := cell_of_block KH10.out 2
    simp at fG0 fG1 fG2 fV0 fV1 fV2 fX0 fX1 fX2 fH0 fH1 fH2
    go_wp2_with fail
    clear fG0 fG1 fG2 fV0 fV1 fV2 fX0 fX1 fX2 fH0 fH1 fH2
    have hNw : w.heap.size ≤ N1 := hNw0
    refine (HMX.out _ aX _ cX w10' rfl RX10.out).mono ?_
    rintro e w11 ⟨rfl, hRm, hb11⟩
    have KG11 := Lib.hid ((hb11.block _ (block_lt KG10.out) (RX10.out.ne KG10.out (by decide))).trans KG10.out)
    have KV11 := Lib.hid ((hb11.block _ (block_lt KV10.out) (RX10.out.ne KV10.out (by decide))).trans KV10.out)
    have KX11 := Lib.hid ((hb11.block _ (block_lt KX10.out) (RX10.out.ne KX10.out (by decide))).trans KX10.out)
    have KH11 := Lib.hid ((hb11.block _ (block_lt KH10.out) (RX10.out.ne KH10.out (by decide))).trans KH10.out)
    have AM11 := Lib.hid (AM10.out.spares hb11 (fun ad ad' h h' => by have h1 := hgeX ad h; have h2 := hltM ad' h'; omega))
    have RH11 := Lib.hid (RH10.out.spares hb11 (fun ad ad' h h' => by have h1 := hltX ad h; have h2 := hgeH ad' h'; omega))
    have B11 := Lib.hid (B10.out.trans ((hb11.below B10.out.size (fun ad h => Nat.le_trans hNw (hgeX ad h))).mono (Nat.le_refl _)))
    clear hb11 KG10 KV10 KX10 KH10 AM10 RH10 B10
    clear RX10
    have RX11 := Lib.hid hRm
    clear hRm
    have fG0 := cell_of_block KG11.out 0
    have fG1 := cell_of_block KG11.out 1
    have fG2 := cell_of_block KG11.out 2
    have fV0 := cell_of_block KV11.out 0
    have fV1 := cell_of_block KV11.out 1
    have fV2 := cell_of_block KV11.out 2
    have fX0 := cell_of_block KX11.out 0
    have fX1 := cell_of_block KX11.out 1
    have fX2 := cell_of_block KX11.out 2
    have fH0 := cell_of_block KH11.out 0
    have fH1 := cell_of_block KH11.out 1
    have fH2 := cell_of_block KH11.out 2
    simp at fG0 fG1 fG2 fV0 fV1 fV2 fX0 fX1 fX2 fH0 fH1 fH2
    go_wp2_with fail
    clear fG0 fG1 fG2 fV0 fV1 fV2 fX0 fX1 fX2 fH0 fH1 fH2
    refine (HED.out aH aM _ _ cH cM w11 rfl rfl RH11.out.at AM11.out).mono ?_
    rintro e w12 ⟨rfl, hb12⟩
    have KG12 := Lib.hid ((hb12.block _ (block_lt KG11.out)).trans KG11.out)
    have KV12 := Lib.hid ((hb12.block _ (block_lt KV11.out)).trans KV11.out)
    have KX12 := Lib.hid ((hb12.block _ (block_lt KX11.out)).trans KX11.out)
    have KH12 := Lib.hid ((hb12.block _ (block_lt KH11.out)).trans KH11.out)
    have AM12 := Lib.hid (AM11.out.later rfl hb12)
    have RH12 := Lib.hid (RH11.out.below hb12)
    have RX12 := Lib.hid (RX11.out.below hb12)
    have B12 := Lib.hid (B11.out.trans (hb12.mono B11.out.size))
    clear hb12 KG11 KV11 KX11 KH11 AM11 RH11 RX11 B11
    have fG0 := cell_of_block KG12.out 0
    have fG1 := cell_of_block KG12.out 1
    have fG2 := cell_of_block KG12.out 2
    have fV0 := cell_of_block KV12.out 0
    have fV1 := cell_of_block KV12.out 1
    have fV2 := cell_of_block KV12.out 2
    have fX0 := cell_of_block KX12.out 0
    have fX1 := cell_of_block KX12.out 1
    have fX2 := cell_of_block KX12.out 2
    have fH0 := cell_of_block KH12.out 0
    have fH1 := cell_of_block KH12.out 1
    have fH2 := cell_of_block KH12.out 2
    simp at fG0 fG1 fG2 fV0 fV1 fV2 fX0 fX1 fX2 fH0 fH1 fH2
    go_wp2_with fail
    clear fG0 fG1 fG2 fV0 fV1 fV2 fX0 fX1 fX2 fH0 fH1 fH2
    have hN12 : N1 ≤ N2 := hN120
    refine (HMG.out _ aH _ cH w12 rfl RH12.out).mono ?_
    rintro e w13 ⟨rfl, hRm, hb13⟩
    have KG13 := Lib.hid ((hb13.block _ (block_lt KG12.out) (RH12.out.ne KG12.out (by decide))).trans KG12.out)
    have KV13 := Lib.hid ((hb13.block _ (block_lt KV12.out) (RH12.out.ne KV12.out (by decide))).trans KV12.out)
    have KX13 := Lib.hid ((hb13.block _ (block_lt KX12.out) (RH12.out.ne KX12.out (by decide))).trans KX12.out)
    have KH13 := Lib.hid ((hb13.block _ (block_lt KH12.out) (RH12.out.ne KH12.out (by decide))).trans KH12.out)
    have AM13 := Lib.hid (AM12.out.spares hb13 (fun ad ad' h h' => by have h1 := hgeH ad h; have h2 := hltM ad' h'; omega))
    have RX13 := Lib.hid (RX12.out.spares hb13 (fun ad ad' h h' => by have h1 := hgeH ad h; have h2 := hltX ad' h'; omega))
    have B13 := Lib.hid (B12.out.trans ((hb13.below B12.out.size (fun ad h => Nat.le_trans hNw (Nat.le_trans hN12 (hgeH ad h)))).mono (Nat.le_refl _)))
    clear hb13 KG12 KV12 KX12 KH12 AM12 RX12 B12
    clear RH12
    have RH13 := Lib.hid hRm
    clear hRm
    have fG0 := cell_of_block KG13.out 0
    have fG1 := cell_of_block KG13.out 1
    have fG2 := cell_of_block KG13.out 2
    have fV0 := cell_of_block KV13.out 0
    have fV1 := cell_of_block KV13.out 1
    have fV2 := cell_of_block KV13.out 2
    have fX0 := cell_of_block KX13.out 0
    have fX1 := cell_of_block KX13.out 1
    have fX2 := cell_of_block KX13.out 2
    have fH0 := cell_of_block KH13.out 0
    have fH1 := cell_of_block KH13.out 1
    have fH2 := cell_of_block KH13.out 2
    simp at fG0 fG1 fG2 fV0 fV1 fV2 fX0 fX1 fX2 fH0 fH1 fH2
    go_wp2_with fail
    clear fG0 fG1 fG2 fV0 fV1 fV2 fX0 fX1 fX2 fH0 fH1 fH2
    refine (HHG.out aH cH w13 RH13.out.at).mono ?_
    rintro e w14 ⟨rfl, hb14⟩
    have KG14 := Lib.hid ((hb14.block _ (block_lt KG13.out)).trans KG13.out)
    have KV14 := Lib.hid ((hb14.block _ (block_lt KV13.out)).trans KV13.out)
    have KX14 := Lib.hid ((hb14.block _ (block_lt KX13.out)).trans KX13.out)
    have KH14 := Lib.hid ((hb14.block _ (block_lt KH13.out)).trans KH13.out)
    have AM14 := Lib.hid (AM13.out.later rfl hb14)
    have RX14 := Lib.hid (RX13.out.below hb14)
    have RH14 := Lib.hid (RH13.out.below hb14)
    have B14 := Lib.hid (B13.out.trans (hb14.mono B13.out.size))
    clear hb14 KG13 KV13 KX13 KH13 AM13 RX13 RH13 B13
    have fG0 := cell_of_block KG14.out 0
    have fG1 := cell_of_block KG14.out 1
    have fG2 := cell_of_block KG14.out 2
    have fV0 := cell_of_block KV14.out 0
    have fV1 := cell_of_block KV14.out 1
    have fV2 := cell_of_block KV14.out 2
    have fX0 := cell_of_block KX14.out 0
    have fX1 := cell_of_block KX14.out 1
    have fX2 := cell_of_block KX14.out 2
    have fH0 := cell_of_block KH14.out 0
    have fH1 := cell_of_block KH14.out 1
    have fH2 := cell_of_block KH14.out 2
    simp at fG0 fG1 fG2 fV0 fV1 fV2 fX0 fX1 fX2 fH0 fH1 fH2
    go_wp2_with fail
    clear fG0 fG1 fG2 fV0 fV1 fV2 fX0 fX1 fX2 fH0 fH1 fH2
    refine (HTP.out w14 (HAT.out.later rfl B14.out)).mono ?_
    rintro e w15 ⟨vQ, rfl, hRQ, hb15⟩
    obtain ⟨aQ, cQ, hv⟩ := hRQ.shape
    subst hv
    have KG15 := Lib.hid ((hb15.block _ (block_lt KG14.out)).trans KG14.out)
    have KV15 := Lib.hid ((hb15.block _ (block_lt KV14.out)).trans KV14.out)
    have KX15 := Lib.hid ((hb15.block _ (block_lt KX14.out)).trans KX14.out)
    have KH15 := Lib.hid ((hb15.block _ (block_lt KH14.out)).trans KH14.out)
    have AM15 := Lib.hid (AM14.out.later rfl hb15)
    have RX15 := Lib.hid (RX14.out.below hb15)
    have RH15 := Lib.hid (RH14.out.below hb15)
    have B15 := Lib.hid (B14.out.trans (hb15.mono B14.out.size))
    clear hb15 KG14 KV14 KX14 KH14 AM14 RX14 RH14 B14
    go_wp2_with fail
    refine (HI.out aQ _ cQ w15 rfl hRQ.cap.1 hRQ.cap.2 hRQ.at).mono ?_
    rintro e w16 ⟨vP, rfl, hRP, hb16⟩
    obtain ⟨aP, cP, hv⟩ := hRP.shape
    subst hv
    have KG16 := Lib.hid ((hb16.block _ (block_lt KG15.out)).trans KG15.out)
    have KV16 := Lib.hid ((hb16.block _ (block_lt KV15.out)).trans KV15.out)
    have KX16 := Lib.hid ((hb16.block _ (block_lt KX15.out)).trans KX15.out)
    have KH16 := Lib.hid ((hb16.block _ (block_lt KH15.out)).trans KH15.out)
    have AM16 := Lib.hid (AM15.out.later rfl hb16)
    have RX16 := Lib.hid (RX15.out.below hb16)
    have RH16 := Lib.hid (RH15.out.below hb16)
    have B16 := Lib.hid (B15.out.trans (hb16.mono B15.out.size))
    clear hb16 KG15 KV15 KX15 KH15 AM15 RX15 RH15 B15
    clear hRQ
    go_upto_region 25 with fail
    have hb17 : Below w16.heap.size w16 (w16.alloc (.cells #[.int .i64 X, .int .i64 Y, .slice aP D.length cP] 30)) := (Below.refl _ _).alloc (Nat.le_refl _) _
    have hN17 := heap_alloc_new w16 (.cells #[.int .i64 X, .int .i64 Y, .slice aP D.length cP] 30)
    have hRP17 := hRP.below hb17
    clear hRP
    generalize hw17 : w16.alloc (.cells #[.int .i64 X, .int .i64 Y, .slice aP D.length cP] 30) = w17 at *
    clear hw17
    generalize hN4 : w16.heap.size = N4 at *
    have HN4 := Lib.hid hN4
    clear hN4
    have KG17 := Lib.hid ((hb17.block _ (by rw [← HN4.out]; exact block_lt KG16.out)).trans KG16.out)
    have KV17 := Lib.hid ((hb17.block _ (by rw [← HN4.out]; exact block_lt KV16.out)).trans KV16.out)
    have KX17 := Lib.hid ((hb17.block _ (by rw [← HN4.out]; exact block_lt KX16.out)).trans KX16.out)
    have KH17 := Lib.hid ((hb17.block _ (by rw [← HN4.out]; exact block_lt KH16.out)).trans KH16.out)
    have AM17 := Lib.hid (AM16.out.later HN4.out.symm hb17)
    have RX17 := Lib.hid (RX16.out.below (HN4.out ▸ hb17))
    have RH17 := Lib.hid (RH16.out.below (HN4.out ▸ hb17))
    have B17 := Lib.hid (B16.out.trans (hb17.mono (HN4.out ▸ B16.out.size)))
    clear hb17 KG16 KV16 KX16 KH16 AM16 RX16 RH16 B16
    have KP17 := Lib.hid hN17
    have RP17 := Lib.hid hRP17
    clear hN17 hRP17 HN4
    have fG0 := cell_of_block KG17.out 0
    have fG1 := cell_of_block KG17.out 1
    have fG2 := cell_of_block KG17.out 2
    have fV0 := cell_of_block KV17.out 0
    have fV1 := cell_of_block KV17.out 1
    have fV2 := cell_of_block KV17.out 2
    have fX0 := cell_of_block KX17.out 0
    have fX1 := cell_of_block KX17.out 1
    have fX2 := cell_of_block KX17.out 2
    have fH0 := cell_of_block KH17.out 0
    have fH1 := cell_of_block KH17.out 1
    have fH2 := cell_of_block KH17.out 2
    have fP0 := cell_of_block KP17.out 0
    have fP1 := cell_of_block KP17.out 1
    have fP2 := cell_of_block KP17.out 2
    simp at fG0 fG1 fG2 fV0 fV1 fV2 fX0 fX1 fX2 fH0 fH1 fH2 fP0 fP1 fP2
    go_wp2_with fail
    clear fG0 fG1 fG2 fV0 fV1 fV2 fX0 fX1 fX2 fH0 fH1 fH2 fP0 fP1 fP2
    refine (HED.out aP aM _ _ cP cM w17 rfl rfl RP17.out.at AM17.out).mono ?_
    rintro e w18 ⟨rfl, hb18⟩
    have KG18 := Lib.hid ((hb18.block _ (block_lt KG17.out)).trans KG17.out)
    have KV18 := Lib.hid ((hb18.block _ (block_lt KV17.out)).trans KV17.out)
    have KX18 := Lib.hid ((hb18.block _ (block_lt KX17.out)).trans KX17.out)
    have KH18 := Lib.hid ((hb18.block _ (block_lt KH17.out)).trans KH17.out)
    have KP18 := Lib.hid ((hb18.block _ (block_lt KP17.out)).trans KP17.out)
    have AM18 := Lib.hid (AM17.out.later rfl hb18)
    have RX18 := Lib.hid (RX17.out.below hb18)
    have RH18 := Lib.hid (RH17.out.below hb18)
    have RP18 := Lib.hid (RP17.out.below hb18)
    have B18 := Lib.hid (B17.out.trans (hb18.mono B17.out.size))
    clear hb18 KG17 KV17 KX17 KH17 KP17 AM17 RX17 RH17 RP17 B17
    have fG0 := cell_of_block KG18.out 0
    have fG1 := cell_of_block KG18.out 1
    have fG2 := cell_of_block KG18.out 2
    have fV0 := cell_of_block KV18.out 0
    have fV1 := cell_of_block KV18.out 1
    have fV2 := cell_of_block KV18.out 2
    have fX0 := cell_of_block KX18.out 0
    have fX1 := cell_of_block KX18.out 1
    have fX2 := cell_of_block KX18.out 2
    have fH0 := cell_of_block KH18.out 0
    have fH1 := cell_of_block KH18.out 1
    have fH2 := cell_of_block KH18.out 2
    have fP0 := cell_of_block KP18.out 0
    have fP1 := cell_of_block KP18.out 1
    have fP2 := cell_of_block KP18.out 2
    simp at fG0 fG1 fG2 fV0 fV1 fV2 fX0 fX1 fX2 fH0 fH1 fH2 fP0 fP1 fP2
    go_wp2_with fail
    clear fG0 fG1 fG2 fV0 fV1 fV2 fX0 fX1 fX2 fH0 fH1 fH2 fP0 fP1 fP2
    refine (HHG.out aH cH w18 RH18.out.at).mono ?_
    rintro e w19 ⟨rfl, hb19⟩
    have KG19 := Lib.hid ((hb19.block _ (block_lt KG18.out)).trans KG18.out)
    have KV19 := Lib.hid ((hb19.block _ (block_lt KV18.out)).trans KV18.out)
    have KX19 := Lib.hid ((hb19.block _ (block_lt KX18.out)).trans KX18.out)
    have KH19 := Lib.hid ((hb19.block _ (block_lt KH18.out)).trans KH18.out)
    have KP19 := Lib.hid ((hb19.block _ (block_lt KP18.out)).trans KP18.out)
    have AM19 := Lib.hid (AM18.out.later rfl hb19)
    have RX19 := Lib.hid (RX18.out.below hb19)
    have RH19 := Lib.hid (RH18.out.below hb19)
    have RP19 := Lib.hid (RP18.out.below hb19)
    have B19 := Lib.hid (B18.out.trans (hb19.mono B18.out.size))
    clear hb19 KG18 KV18 KX18 KH18 KP18 AM18 RX18 RH18 RP18 B18
    go_wp2_with fail
    go_ret
    exact ⟨rfl, B19.out⟩
end Go.Proofs.Ytnnbkbjhombblab
