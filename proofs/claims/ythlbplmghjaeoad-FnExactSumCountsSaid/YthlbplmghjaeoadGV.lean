/- SumCounts by the program. -/
import Derived.Test.YthlbplmghjaeoadGN
import Derived.Test.YthlbplmghjaeoadKJ
import Derived.Test.YthlbplmghjaeoadK2
import Derived.Outline
namespace Go.Proofs.Ythlbplmghjaeoad
open Go.RowKit

/-- Sums above the greatest are none. -/
theorem cnt_above (W H : Nat) (hW : 1 ≤ W ∧ W ≤ 8) (hH : 1 ≤ H ∧ H ≤ 8) (h12 : W * H ≤ 12) (s : Nat) (hs : topG W H < s) : cntA W (allM (W * H) (-1)) s = 0 := by
  obtain ⟨h1, _, _⟩ := sums_top W H hW hH h12
  rw [cntA, ← List.countP_eq_length_filter]
  refine List.countP_eq_zero.2 fun c hc => ?_
  have := h1 c hc
  simp; omega
theorem smK_above (W : Nat) (L : List (List UInt8)) (k : Nat) (h : ∀ s, k ≤ s → cntA W L s = 0) : ∀ d, smK W L (k + d) = smK W L k
  | 0 => rfl
  | d + 1 => by
    rw [← Nat.add_assoc, smK_snoc, if_neg (by rw [h (k + d) (by omega)]; omega), List.append_nil, smK_above W L k h d]
theorem topG_le (W H : Nat) (hW : 1 ≤ W ∧ W ≤ 8) (hH : 1 ≤ H ∧ H ≤ 8) (h12 : W * H ≤ 12) : topG W H ≤ 144 := by
  obtain ⟨_, ⟨c, hc, e⟩, _⟩ := sums_top W H hW hH h12
  have hl := allM_len hc
  have := sumGo_le c W c.length 0
  rw [hl] at this e
  rw [← e]
  exact Nat.le_trans this (Nat.mul_le_mul h12 h12)
theorem smR_top (W H : Nat) (hW : 1 ≤ W ∧ W ≤ 8) (hH : 1 ≤ H ∧ H ≤ 8) (h12 : W * H ≤ 12) : smR W H = smK W (allM (W * H) (-1)) (topG W H + 1) := by
  have h := smK_above W (allM (W * H) (-1)) (topG W H + 1) (fun s hs => cnt_above W H hW hH h12 s (by omega)) (501 - (topG W H + 1))
  have ht := topG_le W H hW hH h12
  rw [show topG W H + 1 + (501 - (topG W H + 1)) = 501 by omega] at h
  exact h
set_option maxRecDepth 100000 in
set_option maxHeartbeats 400000 in
theorem iSumCounts_any (w h : Int) (ws : World) :
    Calls Try.prog 14 #[.int .i64 w, .int .i64 h] ws fun e w' => ∃ a cap us, e = .returned (.tuple #[.slice a (scM w h).length cap, .bool (szB w h 12)]) ∧ us.length = (scM w h).length ∧
      Fam w' ws.heap.size ((.slice a (scM w h).length cap, 39, us) :: rowsF us (scM w h)) ∧ Below ws.heap.size ws w' := by
  have h1 := fun wr => isSmall_any w h wr
  rcases sz_case w h 12 with hs | ⟨hs, W, H, rfl, rfl, hW1, hW2, hH1, hH2, hn⟩
  · rw [hs] at h1
    have HM : Hid (scM w h = []) := by rw [Hid, scM, hs]; rfl
    rw [hs]
    have H1 := Lib.hid h1
    clear hs h1
    go_enter Try.func14, Try.ntmps14
    go_wp2_with fail
    refine (H1.out _).mono ?_
    rintro e w1 ⟨rfl, rfl⟩
    go_wp2_with fail
    go_ret2
    exact ⟨none, 0, [], by rw [HM.out]; rfl, by rw [HM.out]; rfl, by rw [HM.out]; exact (Fam.empty _ _).nil, Below.refl _ _⟩
  · rw [hs] at h1
    have H1 := Lib.hid h1
    have h12 : W * H ≤ 12 := by omega
    have HM : Hid (scM W H = smK W (allM (W * H) (-1)) (topG W H + 1)) := by
      rw [Hid, scM, if_pos hs]
      exact smR_top W H ⟨hW1, hW2⟩ ⟨hH1, hH2⟩ h12
    rw [hs]
    have HSC := Lib.hid (fun s => sum_count W H hW2 hH2 h12 s)
    have hG := (sums_top W H ⟨hW1, hW2⟩ ⟨hH1, hH2⟩ h12).2.2
    have hT := topG_le W H ⟨hW1, hW2⟩ ⟨hH1, hH2⟩ h12
    have hgr := greatest_any W H ⟨hW1, hW2⟩ ⟨hH1, hH2⟩
    rw [← hG] at hgr
    have HGR := Lib.hid hgr
    have eF : ∀ args w, (callFunc 35 args).run Try.prog w = .ok (.enter 35 args) w := enters_of Try.func35 (by kernel_rfl) rfl
    have eC : ∀ args w, (callFunc 67 args).run Try.prog w = .ok (.enter 67 args) w := enters_of Try.func67 (by kernel_rfl) rfl
    have hL0 : (listGo W (W * H) (W * H)).length = 2 ^ (W * H) := listGo_length W _ _ h12
    have hcb := counterBy_of W H (listGo W (W * H) (W * H)) (by rw [hL0]; exact Nat.two_pow_pos _) (by rw [hL0]; exact Nat.pow_le_pow_right (by decide) h12) (listBoards_any W H ⟨hW1, hW2⟩ ⟨hH1, hH2⟩ h12) 35 LB.sms (fun z => Nat.le_trans (z.smK_le 12) (by decide)) eF (fun z w => lbSumA_any z w)
    have HCB := Lib.hid hcb
    have HCA := Lib.hid (fun s => Nat.le_trans (cntA_le W (allM (W * H) (-1)) s) (allM_le (W * H) (-1) h12))
    have HSN := Lib.hid (fun k => smK_snoc W (allM (W * H) (-1)) k)
    have HSK := Lib.hid (fun k => smK_le W (allM (W * H) (-1)) k)
    clear hs h1 hcb hL0 hgr hG eF
    generalize listGo W (W * H) (W * H) = L at *
    generalize allM (W * H) (-1) = A at *
    generalize topG W H = G at *
    obtain ⟨G1, hG1⟩ : ∃ G1 : Nat, G1 = G + 1 := ⟨_, rfl⟩
    rw [← hG1] at HM
    have hGi : (G : Int) + 1 = (G1 : Int) := by omega
    have hG2 : G1 ≤ 145 := by omega
    clear hG1
    go_enter Try.func14, Try.ntmps14
    go_wp2_with fail
    refine (H1.out _).mono ?_
    rintro e w1 ⟨rfl, rfl⟩
    go_wp2_with fail
    refine (HCB.out _).mono ?_
    rintro e w2 ⟨pb, po, rfl, hb2, hcl⟩
    have HCL := Lib.hid hcl
    clear hcl HCB
    go_wp2_with fail
    refine (HGR.out _).mono ?_
    rintro e w3 ⟨rfl, hb3⟩
    have hb03 := hb2.trans (hb3.mono hb2.size)
    obtain ⟨wo, hwo⟩ : ∃ wo : World, wo = w3 := ⟨_, rfl⟩
    have hb3' : Below w2.heap.size w2 wo := by rw [hwo]; exact hb3
    have hb03' : Below ws.heap.size ws wo := by rw [hwo]; exact hb03
    rw [← hwo]
    clear hb3 hb03 hwo hb2
    go_wp2_with fail
    go_loopw [7, 21] (fun v i wr => ∃ (k : Nat) (us : List Value), k ≤ G1 ∧ i = .int .i64 k ∧ us.length = (smK W A k).length ∧ Fam wr wo.heap.size ((v, 39, us) :: rowsF us (smK W A k)) ∧ Below wo.heap.size wo wr) (fun _ i _ => G1 - (intOf i).toNat)
    case atStart => exact ⟨0, [], Nat.zero_le _, rfl, rfl, (Fam.empty _ _).nil, Below.refl _ _⟩
    case round =>
      obtain ⟨k, us, hk, rfl, hus, hF, hbr⟩ := hrel
      have HUS := Lib.hid hus
      have hskl := HSK.out k
      have hus' : us.length ≤ k := by omega
      have sr := hbr.size
      clear hus
      by_cases hltk : k < G1
      · have hcl := HCL.out k [] none 0 wr (hb3'.trans (hbr.mono hb3'.size)) ⟨by omega, by omega⟩ (by simp) (by simp) (by intro k hk; simp at hk)
        simp only [List.all_nil, Bool.and_true, HSC.out k, List.length_nil] at hcl
        have HCK := Lib.hid hcl
        have hsn := HSN.out k
        have hca := HCA.out k
        clear hcl
        generalize cntA W A k = ca at *
        by_cases hpos : 0 < ca
        · rw [if_pos hpos] at hsn
          have HS := Lib.hid hsn
          clear hsn
          have hpi : 0 < (ca : Int) := by omega
          go_upto_region 9 with (go_at_fn 67; refine HCK.out.mono ?_; rintro e w5 ⟨rfl, hb5⟩)
          have hF5 := hF.later hb5
          have hbr5 := hbr.trans (hb5.mono sr)
          have sr5 := hbr5.size
          have hb1 : Below w5.heap.size w5 (w5.alloc (.cells #[.int .i64 (k : Int), .int .i64 (ca : Int)] 3)) := (Below.refl _ _).alloc (Nat.le_refl _) _
          have hF2 := (hF5.fresh hb1 (Owns.two w5 w5.heap.size 3 (.int .i64 (k : Int)) (.int .i64 (ca : Int)) (Nat.le_refl _)) sr5).swap
          have hsr2 : wo.heap.size ≤ (w5.alloc (.cells #[.int .i64 (k : Int), .int .i64 (ca : Int)] 3)).heap.size := Nat.le_trans sr5 hb1.size
          have hb01 := hbr5.trans (hb1.mono sr5)
          clear hF hF5 hb5
          have hx8 : Value.slice (some ⟨w5.heap.size + 1, 0, none⟩) 1 1 = Value.slice (some ⟨(w5.alloc (.cells #[.int .i64 (k : Int), .int .i64 (ca : Int)] 3)).heap.size, 0, none⟩) 1 1 := by rw [World.size_alloc]
          have HX8 := Lib.hid hx8
          clear hx8
          go_wp2_with (at_builtin; refine wpList_app1F rfl _ _ _ rfl wo.heap.size _ _ _ elemRow _ _ _ _ _ rfl rfl rfl hF2 HX8.out (by omega) hsr2 (by omega) ?_; intro v8 w8 hF8 hb8 hs8)
          have hF9 := hF8.perm ((List.Perm.cons _ (List.perm_append_singleton _ _).symm))
          have e1 : rowsF us (smK W A k) ++ [(.slice (some ⟨w5.heap.size, 0, none⟩) 2 2, 3, [.int .i64 (k : Int), .int .i64 (ca : Int)])] = rowsF (us ++ [.slice (some ⟨w5.heap.size, 0, none⟩) 2 2]) (smK W A (k + 1)) := by
            rw [HS.out]
            exact (rowsF_snoc _ [k, ca] us (smK W A k) HUS.out).symm
          rw [e1] at hF9
          clear e1 hF8 hF2
          go_roundw
          case rel =>
            first
              | exact ⟨k + 1, _, by omega, by go_num, by rw [HS.out]; simp [HUS.out], hF9, hb01.trans hb8⟩
              | ((repeat apply Exists.intro); exact ⟨⟨k + 1, _, by omega, by go_num, by rw [HS.out]; simp [HUS.out], hF9, hb01.trans hb8⟩, rfl⟩)
          case measure => simp [intOf]; omega
        · rw [if_neg hpos, List.append_nil] at hsn
          have HS := Lib.hid hsn
          clear hsn
          have hpi : ¬ 0 < (ca : Int) := by omega
          go_wp2_with (go_at_fn 67; refine HCK.out.mono ?_; rintro e w5 ⟨rfl, hb5⟩)
          go_roundw
          case rel => exact ⟨k + 1, us, by omega, by go_num, by rw [HS.out]; exact HUS.out, by rw [HS.out]; exact hF.later hb5, hbr.trans (hb5.mono sr)⟩
          case measure => simp [intOf]; omega
      · obtain rfl : k = G1 := by omega
        go_wp2_with fail
        go_ret2
        obtain ⟨a, cap, hv⟩ := hF.head.shape
        rw [HUS.out] at hv
        have hF2 := hF.mono hb03'.size
        rw [hv] at hF2
        exact ⟨a, cap, us, by rw [HM.out, ← hv]; rfl, by rw [HM.out]; exact HUS.out, by rw [HM.out]; exact hF2, hb03'.trans (hbr.mono hb03'.size)⟩
end Go.Proofs.Ythlbplmghjaeoad
