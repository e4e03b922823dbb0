/- The law FnExactSolutions holds at every argument. -/
import Derived.Test.YtnnbkbjhombblaaB1
import Derived.Test.YtnnbkbjhombblaaA9
import Derived.Test.YtnnbkbjhombblaaAD
import Derived.Test.YtnnbkbjhombblaaE4
import Derived.Deep.DeepCutAuto
import Derived.Outline
namespace Go.Proofs.Ytnnbkbjhombblaa
open Go.RowKit

theorem Solutions_under {w w' : World} {a : Option Addr} {xs : List Value} {N : Nat} (h : At w a xs) (hlt : ∀ ad, a = some ad → ad.block < N) (hb : Below N w w') : At w' a xs := by
  intro k hk
  obtain ⟨b, off, rfl, hc⟩ := h k hk
  exact ⟨b, off, rfl, by rw [hb.cell (p := ⟨b, off + k, none⟩) (show b < N from hlt ⟨b, off, none⟩ rfl)]; exact hc⟩
theorem Solutions_adlt {w : World} {B t n c : Nat} {a : Option Addr} {xs : List Value} (h : Owns w B t (.slice a n c) xs) : ∀ ad, a = some ad → ad.block < w.heap.size := by
  intro ad had
  obtain ⟨_, h2⟩ := h
  rcases h2 with ⟨hv, _⟩ | ⟨g, cap, cur, hv, hg, hh, _⟩
  · rw [had] at hv; simp at hv
  · rw [had] at hv
    simp only [Value.slice.injEq, Option.some.injEq] at hv
    rw [hv.1]; exact block_lt hh
set_option maxRecDepth 100000 in
set_option maxHeartbeats 4000000 in
theorem law_Solutions (x y : Int) (cs : List Clu) (a : Option Addr) (cap : Nat) (w : World) (hat : At w a (flatC cs)) (hc : cs.length ≤ 9223372036854775807) :
    Calls Try.prog 7 #[.agg #[.int .i64 x, .int .i64 y, .slice a cs.length cap]] w fun e w' => e = .returned (.bool true) ∧ Below w.heap.size w w' := by
  have hb : Below w.heap.size w (w.alloc (.cells #[.int .i64 x, .int .i64 y, .slice a cs.length cap] 30)) := (Below.refl _ _).alloc (Nat.le_refl _) _
  by_cases hl : cs.length ≤ 1048576
  case neg =>
    have HSZ := Lib.hid (fun w => szPuzzle_no x y a cs.length cap w (by omega) hc)
    go_enter Try.func7, Try.ntmps7
    go_wp2_with fail
    refine (HSZ.out _).mono ?_
    rintro e w1 ⟨rfl, hb1⟩
    have hB1 := hb.trans (hb1.mono hb.size)
    clear hb hb1
    go_wp2_with fail
    go_ret
    exact ⟨rfl, hB1⟩
  obtain ⟨R, D, hD, hs, hi⟩ := core_Solutions x y cs
  have HS := Lib.hid hs
  have HI := Lib.hid hi
  have HSZ := Lib.hid (fun w => szPuzzle_yes x y a cs.length cap w hl)
  have HTP := Lib.hid (fun w h => toPuzzle_any x y cs a cap w h hl)
  have HE := Lib.hid (fun a' b' n' m' c' d' w hn hm h1 h2 => eqPuzzle_same x y cs a' b' n' m' c' d' w hn hm h1 h2 (by omega))
  have HED := Lib.hid (fun a' b' c' d' w h1 h2 => eqStringS_same a' b' D D.length c' d' w rfl h1 h2 (by omega))
  have HMX := Lib.hid (fun B' a' n' c' w hn h => markPuzzle_own x y B' a' cs n' c' w hn h (by omega))
  have HMG := Lib.hid (fun B' a' c' w h => markStringS_own B' a' D D.length c' 1 w rfl rfl h (by omega))
  have HHG := Lib.hid (fun a' c' w h => heldStringS_seq a' D.length c' 1 w rfl h (by omega))
  have hdr : ∀ b : Bool, (b != b) = false := fun b => by cases b <;> rfl
  have hdi : ∀ n : Int, (n != n) = false := fun n => by simp
  have hq1 : ¬ (1 + 3 * (cs.length : Int) < 0) := by omega
  have hq2 : ¬ (1 + (D.length : Int) < 0) := by omega
  have HAT := Lib.hid hat
  clear hs hi hat
  have hG := heap_alloc_new w (.cells #[.int .i64 x, .int .i64 y, .slice a cs.length cap] 30)
  go_enter Try.func7, Try.ntmps7
  go_wp2_with fail
  generalize w.alloc (.cells #[.int .i64 x, .int .i64 y, .slice a cs.length cap] 30) = w0 at *
  have KG0 := Lib.hid hG
  have B0 := Lib.hid hb
  clear hG hb
  refine (HSZ.out _).mono ?_
  rintro e w1 ⟨m, rfl, hm, hb1⟩
  have hm0 : ¬ m < 0 := by omega
  clear hm
  have KG1 := Lib.hid ((hb1.block _ (block_lt KG0.out)).trans KG0.out)
  have B1 := Lib.hid (B0.out.trans (hb1.mono B0.out.size))
  clear hb1 KG0 B0
  have fKG0 := cell_of_block KG1.out 0
  have fKG1 := cell_of_block KG1.out 1
  have fKG2 := cell_of_block KG1.out 2
  simp at fKG0 fKG1 fKG2
  go_wp2_with fail
  clear fKG0 fKG1 fKG2
  refine (HTP.out w1 (HAT.out.later rfl B1.out)).mono ?_
  rintro e w2 ⟨vS, rfl, hRS, hb2⟩
  obtain ⟨aS, cS, hv⟩ := hRS.shape
  subst hv
  have KG2 := Lib.hid ((hb2.block _ (block_lt KG1.out)).trans KG1.out)
  have B2 := Lib.hid (B1.out.trans (hb2.mono B1.out.size))
  clear hb2 KG1 B1
  have fKG0 := cell_of_block KG2.out 0
  have fKG1 := cell_of_block KG2.out 1
  have fKG2 := cell_of_block KG2.out 2
  simp at fKG0 fKG1 fKG2
  go_wp2_with fail
  clear fKG0 fKG1 fKG2
  refine (HS.out aS _ cS w2 _ rfl hRS).mono ?_
  rintro e w3 ⟨aM, cM, rfl, hOM, hb3⟩
  clear hRS
  have KG3 := Lib.hid ((hb3.block _ (block_lt KG2.out)).trans KG2.out)
  have B3 := Lib.hid (B2.out.trans (hb3.mono B2.out.size))
  clear hb3 KG2 B2
  have AM3 := Lib.hid hOM.at
  have hltM : ∀ ad, aM = some ad → ad.block < w3.heap.size := Solutions_adlt hOM
  clear hOM
  have fKG0 := cell_of_block KG3.out 0
  have fKG1 := cell_of_block KG3.out 1
  have fKG2 := cell_of_block KG3.out 2
  simp at fKG0 fKG1 fKG2
  go_wp2_with fail
  clear fKG0 fKG1 fKG2
  obtain ⟨N1, hN1⟩ : ∃ N1, N1 = w3.heap.size := ⟨_, rfl⟩
  rw [← hN1] at hltM
  have hNw : w.heap.size ≤ N1 := by rw [hN1]; exact B3.out.size
  refine (HTP.out w3 (HAT.out.later rfl B3.out)).mono ?_
  rintro e w4 ⟨vX, rfl, hRX, hb4⟩
  obtain ⟨aX, cX, hv⟩ := hRX.shape
  subst hv
  rw [← hN1] at hRX
  have hN1s : N1 ≤ w4.heap.size := by rw [hN1]; exact hb4.size
  have KG4 := Lib.hid ((hb4.block _ (block_lt KG3.out)).trans KG3.out)
  have AM4 := Lib.hid (AM3.out.later rfl hb4)
  have B4 := Lib.hid (B3.out.trans (hb4.mono B3.out.size))
  clear hb4 KG3 AM3 B3
  clear hN1
  go_upto_region 7 with fail
  have hb5 : Below w4.heap.size w4 (w4.alloc (.cells #[.int .i64 x, .int .i64 y, .slice aX cs.length cX] 35)) := (Below.refl _ _).alloc (Nat.le_refl _) _
  have hKX := heap_alloc_new w4 (.cells #[.int .i64 x, .int .i64 y, .slice aX cs.length cX] 35)
  have hN2s : N1 ≤ w4.heap.size := hN1s
  have RX4 := Lib.hid hRX
  clear hRX hN1s
  generalize hw5 : w4.alloc (.cells #[.int .i64 x, .int .i64 y, .slice aX cs.length cX] 35) = w5 at *
  clear hw5
  have KG5 := Lib.hid ((hb5.block _ (block_lt KG4.out)).trans KG4.out)
  have AM5 := Lib.hid (AM4.out.later rfl hb5)
  have RX5 := Lib.hid (RX4.out.below hb5)
  have B5 := Lib.hid (B4.out.trans (hb5.mono B4.out.size))
  clear hb5 KG4 AM4 RX4 B4
  generalize w4.heap.size = N2 at *
  have KX5 := Lib.hid hKX
  clear hKX
  have fKG0 := cell_of_block KG5.out 0
  have fKG1 := cell_of_block KG5.out 1
  have fKG2 := cell_of_block KG5.out 2
  have fKX0 := cell_of_block KX5.out 0
  have fKX1 := cell_of_block KX5.out 1
  have fKX2 := cell_of_block KX5.out 2
  simp at fKG0 fKG1 fKG2 fKX0 fKX1 fKX2
  go_wp2_with fail
  clear fKG0 fKG1 fKG2 fKX0 fKX1 fKX2
  obtain ⟨N3, hN3⟩ : ∃ N3, N3 = w5.heap.size := ⟨_, rfl⟩
  have hG3 : w.heap.size < N3 := by rw [hN3]; exact block_lt KG5.out
  have hX3 : N2 < N3 := by rw [hN3]; exact block_lt KX5.out
  have hltM3 : ∀ ad, aM = some ad → ad.block < N3 := fun ad h => by have := hltM ad h; omega
  have hltX3 : ∀ ad, aX = some ad → ad.block < N3 := fun ad h => by rw [hN3]; exact (RX5.out.lt ad h).2
  have hgeX : ∀ ad, aX = some ad → N1 ≤ ad.block := fun ad h => (RX5.out.lt ad h).1
  refine (HI.out aX _ cX w5 rfl RX5.out.at).mono ?_
  rintro e w6 ⟨aH, cH, rfl, hOH, hb6⟩
  rw [← hN3] at hOH
  have KG6 := Lib.hid ((hb6.block _ (block_lt KG5.out)).trans KG5.out)
  have AM6 := Lib.hid (AM5.out.later rfl hb6)
  have RX6 := Lib.hid (RX5.out.below hb6)
  have KX6 := Lib.hid ((hb6.block _ (block_lt KX5.out)).trans KX5.out)
  have B6 := Lib.hid (B5.out.trans (hb6.mono B5.out.size))
  clear hb6 KG5 AM5 RX5 KX5 B5
  clear hN3
  have OH6 := Lib.hid hOH
  clear hOH
  have fKG0 := cell_of_block KG6.out 0
  have fKG1 := cell_of_block KG6.out 1
  have fKG2 := cell_of_block KG6.out 2
  have fKX0 := cell_of_block KX6.out 0
  have fKX1 := cell_of_block KX6.out 1
  have fKX2 := cell_of_block KX6.out 2
  simp at fKG0 fKG1 fKG2 fKX0 fKX1 fKX2
  go_wp2_with fail
  clear fKG0 fKG1 fKG2 fKX0 fKX1 fKX2
  refine (HED.out aH aM cH cM w6 OH6.out.at AM6.out).mono ?_
  rintro e w7 ⟨rfl, hb7⟩
  have KG7 := Lib.hid ((hb7.block _ (block_lt KG6.out)).trans KG6.out)
  have AM7 := Lib.hid (AM6.out.later rfl hb7)
  have RX7 := Lib.hid (RX6.out.below hb7)
  have KX7 := Lib.hid ((hb7.block _ (block_lt KX6.out)).trans KX6.out)
  have OH7 := Lib.hid (OH6.out.later hb7)
  have B7 := Lib.hid (B6.out.trans (hb7.mono B6.out.size))
  clear hb7 KG6 AM6 RX6 KX6 OH6 B6
  have fKG0 := cell_of_block KG7.out 0
  have fKG1 := cell_of_block KG7.out 1
  have fKG2 := cell_of_block KG7.out 2
  have fKX0 := cell_of_block KX7.out 0
  have fKX1 := cell_of_block KX7.out 1
  have fKX2 := cell_of_block KX7.out 2
  simp at fKG0 fKG1 fKG2 fKX0 fKX1 fKX2
  go_wp2_with fail
  go_region_law (first
    | (go_simp; go_at_call 16; refine (HTP.out _ (HAT.out.later rfl (ofDrewB B7.out))).mono ?_; rintro e wZ ⟨vZ, rfl, hRZ, hbZ⟩;
       obtain ⟨aZ, cZ, hvZ⟩ := hRZ.shape; subst hvZ; have HXZ := Lib.hid ((hbZ.block _ (block_lt KX7.out)).trans KX7.out);
       have yZ0 := cell_of_block HXZ.out 0; have yZ1 := cell_of_block HXZ.out 1; have yZ2 := cell_of_block HXZ.out 2; simp at yZ0 yZ1 yZ2)
    | (go_simp; go_at_call 18; refine (HE.out aX aZ _ _ cX cZ wZ rfl rfl (RX7.out.at.later rfl (ofDrewC hbZ)) hRZ.at).mono ?_; rintro e wY ⟨rfl, hbY⟩))
  all_goals
    have hb8 : Below w7.heap.size w7 wY := (ofDrewC hbZ).trans (hbY.mono (ofDrewC hbZ).size)
    clear hbZ hbY hRZ fKG0 fKG1 fKG2 fKX0 fKX1 fKX2
    try clear HXZ yZ0 yZ1 yZ2
    have KG8 := Lib.hid ((hb8.block _ (block_lt KG7.out)).trans KG7.out)
    have AM8 := Lib.hid (AM7.out.later rfl hb8)
    have RX8 := Lib.hid (RX7.out.below hb8)
    have KX8 := Lib.hid ((hb8.block _ (block_lt KX7.out)).trans KX7.out)
    have OH8 := Lib.hid (OH7.out.later hb8)
    have B8 := Lib.hid (B7.out.trans (hb8.mono B7.out.size))
    clear hb8 KG7 AM7 RX7 KX7 OH7 B7
    have fKG0 := cell_of_block KG8.out 0
    have fKG1 := cell_of_block KG8.out 1
    have fKG2 := cell_of_block KG8.out 2
    have fKX0 := cell_of_block KX8.out 0
    have fKX1 := cell_of_block KX8.out 1
    have fKX2 := cell_of_block KX8.out 2
    simp at fKG0 fKG1 fKG2 fKX0 fKX1 fKX2
    go_wp2_with fail
    clear fKG0 fKG1 fKG2 fKX0 fKX1 fKX2
    refine (HMX.out _ aX _ cX wY rfl RX8.out).mono ?_
    rintro e w9 ⟨rfl, hRm, hb9⟩
    clear hRm
    have KG9 := Lib.hid ((hb9.block _ (block_lt KG8.out) (RX8.out.ne KG8.out (by decide))).trans KG8.out)
    have KX9 := Lib.hid ((hb9.block _ (block_lt KX8.out) (RX8.out.ne KX8.out (by decide))).trans KX8.out)
    have AM9 := Lib.hid (AM8.out.spares hb9 (fun ad ad' h h' => by have h1 := hgeX ad h; have h2 := hltM ad' h'; omega))
    have OH9 := Lib.hid (OH8.out.heapOf (fun q hq => hb9.block q (OH8.out.lt q hq).2 (fun ad h e => by have h1 := hltX3 ad h; have h2 := (OH8.out.lt q hq).1; omega)))
    have B9 := Lib.hid (B8.out.trans (hb9.below B8.out.size (fun ad h => Nat.le_trans hNw (hgeX ad h))))
    clear hb9 KG8 AM8 RX8 KX8 OH8 B8
    have fKG0 := cell_of_block KG9.out 0
    have fKG1 := cell_of_block KG9.out 1
    have fKG2 := cell_of_block KG9.out 2
    have fKX0 := cell_of_block KX9.out 0
    have fKX1 := cell_of_block KX9.out 1
    have fKX2 := cell_of_block KX9.out 2
    simp at fKG0 fKG1 fKG2 fKX0 fKX1 fKX2
    go_wp2_with fail
    clear fKG0 fKG1 fKG2 fKX0 fKX1 fKX2
    refine (HED.out aH aM cH cM w9 OH9.out.at AM9.out).mono ?_
    rintro e w10 ⟨rfl, hb10⟩
    have KG10 := Lib.hid ((hb10.block _ (block_lt KG9.out)).trans KG9.out)
    have AM10 := Lib.hid (AM9.out.later rfl hb10)
    have KX10 := Lib.hid ((hb10.block _ (block_lt KX9.out)).trans KX9.out)
    have OH10 := Lib.hid (OH9.out.later hb10)
    have B10 := Lib.hid (B9.out.trans (hb10.mono B9.out.size))
    clear hb10 KG9 AM9 KX9 OH9 B9
    have fKG0 := cell_of_block KG10.out 0
    have fKG1 := cell_of_block KG10.out 1
    have fKG2 := cell_of_block KG10.out 2
    have fKX0 := cell_of_block KX10.out 0
    have fKX1 := cell_of_block KX10.out 1
    have fKX2 := cell_of_block KX10.out 2
    simp at fKG0 fKG1 fKG2 fKX0 fKX1 fKX2
    go_wp2_with fail
    clear fKG0 fKG1 fKG2 fKX0 fKX1 fKX2
    refine (HMG.out N3 aH cH w10 OH10.out).mono ?_
    rintro e w11 ⟨rfl, hOm, hb11⟩
    have KG11 := Lib.hid ((hb11.block _ hG3).trans KG10.out)
    have KX11 := Lib.hid ((hb11.block _ hX3).trans KX10.out)
    have AM11 := Lib.hid (Solutions_under AM10.out hltM3 hb11)
    have B11 := Lib.hid (B10.out.trans (hb11.mono (Nat.le_of_lt hG3)))
    clear hb11 KG10 AM10 KX10 OH10 B10
    have OH11 := Lib.hid hOm
    clear hOm
    have fKG0 := cell_of_block KG11.out 0
    have fKG1 := cell_of_block KG11.out 1
    have fKG2 := cell_of_block KG11.out 2
    have fKX0 := cell_of_block KX11.out 0
    have fKX1 := cell_of_block KX11.out 1
    have fKX2 := cell_of_block KX11.out 2
    simp at fKG0 fKG1 fKG2 fKX0 fKX1 fKX2
    go_wp2_with fail
    clear fKG0 fKG1 fKG2 fKX0 fKX1 fKX2
    refine (HHG.out aH cH w11 OH11.out.at).mono ?_
    rintro e w12 ⟨rfl, hb12⟩
    have KG12 := Lib.hid ((hb12.block _ (block_lt KG11.out)).trans KG11.out)
    have AM12 := Lib.hid (AM11.out.later rfl hb12)
    have KX12 := Lib.hid ((hb12.block _ (block_lt KX11.out)).trans KX11.out)
    have OH12 := Lib.hid (OH11.out.later hb12)
    have B12 := Lib.hid (B11.out.trans (hb12.mono B11.out.size))
    clear hb12 KG11 AM11 KX11 OH11 B11
    have fKG0 := cell_of_block KG12.out 0
    have fKG1 := cell_of_block KG12.out 1
    have fKG2 := cell_of_block KG12.out 2
    have fKX0 := cell_of_block KX12.out 0
    have fKX1 := cell_of_block KX12.out 1
    have fKX2 := cell_of_block KX12.out 2
    simp at fKG0 fKG1 fKG2 fKX0 fKX1 fKX2
    go_wp2_with fail
    clear fKG0 fKG1 fKG2 fKX0 fKX1 fKX2
    refine (HTP.out w12 (HAT.out.later rfl B12.out)).mono ?_
    rintro e w13 ⟨vQ, rfl, hRQ, hb13⟩
    obtain ⟨aQ, cQ, hv⟩ := hRQ.shape
    subst hv
    have KG13 := Lib.hid ((hb13.block _ (block_lt KG12.out)).trans KG12.out)
    have AM13 := Lib.hid (AM12.out.later rfl hb13)
    have KX13 := Lib.hid ((hb13.block _ (block_lt KX12.out)).trans KX12.out)
    have OH13 := Lib.hid (OH12.out.later hb13)
    have B13 := Lib.hid (B12.out.trans (hb13.mono B12.out.size))
    clear hb13 KG12 AM12 KX12 OH12 B12
    have fKG0 := cell_of_block KG13.out 0
    have fKG1 := cell_of_block KG13.out 1
    have fKG2 := cell_of_block KG13.out 2
    have fKX0 := cell_of_block KX13.out 0
    have fKX1 := cell_of_block KX13.out 1
    have fKX2 := cell_of_block KX13.out 2
    simp at fKG0 fKG1 fKG2 fKX0 fKX1 fKX2
    go_wp2_with fail
    clear fKG0 fKG1 fKG2 fKX0 fKX1 fKX2
    refine (HI.out aQ _ cQ w13 rfl hRQ.at).mono ?_
    rintro e w14 ⟨aP, cP, rfl, hOP, hb14⟩
    clear hRQ
    have KG14 := Lib.hid ((hb14.block _ (block_lt KG13.out)).trans KG13.out)
    have AM14 := Lib.hid (AM13.out.later rfl hb14)
    have KX14 := Lib.hid ((hb14.block _ (block_lt KX13.out)).trans KX13.out)
    have OH14 := Lib.hid (OH13.out.later hb14)
    have B14 := Lib.hid (B13.out.trans (hb14.mono B13.out.size))
    clear hb14 KG13 AM13 KX13 OH13 B13
    have AP14 := Lib.hid hOP.at
    clear hOP
    have fKG0 := cell_of_block KG14.out 0
    have fKG1 := cell_of_block KG14.out 1
    have fKG2 := cell_of_block KG14.out 2
    have fKX0 := cell_of_block KX14.out 0
    have fKX1 := cell_of_block KX14.out 1
    have fKX2 := cell_of_block KX14.out 2
    simp at fKG0 fKG1 fKG2 fKX0 fKX1 fKX2
    go_wp2_with fail
    clear fKG0 fKG1 fKG2 fKX0 fKX1 fKX2
    refine (HED.out aP aM cP cM w14 AP14.out AM14.out).mono ?_
    rintro e w15 ⟨rfl, hb15⟩
    have KG15 := Lib.hid ((hb15.block _ (block_lt KG14.out)).trans KG14.out)
    have AM15 := Lib.hid (AM14.out.later rfl hb15)
    have KX15 := Lib.hid ((hb15.block _ (block_lt KX14.out)).trans KX14.out)
    have OH15 := Lib.hid (OH14.out.later hb15)
    have AP15 := Lib.hid (AP14.out.later rfl hb15)
    have B15 := Lib.hid (B14.out.trans (hb15.mono B14.out.size))
    clear hb15 KG14 AM14 KX14 OH14 AP14 B14
    have fKG0 := cell_of_block KG15.out 0
    have fKG1 := cell_of_block KG15.out 1
    have fKG2 := cell_of_block KG15.out 2
    have fKX0 := cell_of_block KX15.out 0
    have fKX1 := cell_of_block KX15.out 1
    have fKX2 := cell_of_block KX15.out 2
    simp at fKG0 fKG1 fKG2 fKX0 fKX1 fKX2
    go_wp2_with fail
    clear fKG0 fKG1 fKG2 fKX0 fKX1 fKX2
    refine (HHG.out aH cH w15 OH15.out.at).mono ?_
    rintro e w16 ⟨rfl, hb16⟩
    have KG16 := Lib.hid ((hb16.block _ (block_lt KG15.out)).trans KG15.out)
    have AM16 := Lib.hid (AM15.out.later rfl hb16)
    have KX16 := Lib.hid ((hb16.block _ (block_lt KX15.out)).trans KX15.out)
    have OH16 := Lib.hid (OH15.out.later hb16)
    have AP16 := Lib.hid (AP15.out.later rfl hb16)
    have B16 := Lib.hid (B15.out.trans (hb16.mono B15.out.size))
    clear hb16 KG15 AM15 KX15 OH15 AP15 B15
    have fKG0 := cell_of_block KG16.out 0
    have fKG1 := cell_of_block KG16.out 1
    have fKG2 := cell_of_block KG16.out 2
    have fKX0 := cell_of_block KX16.out 0
    have fKX1 := cell_of_block KX16.out 1
    have fKX2 := cell_of_block KX16.out 2
    simp at fKG0 fKG1 fKG2 fKX0 fKX1 fKX2
    go_wp2_with fail
    clear fKG0 fKG1 fKG2 fKX0 fKX1 fKX2
    go_ret
    exact ⟨rfl, B16.out⟩
end Go.Proofs.Ytnnbkbjhombblaa
