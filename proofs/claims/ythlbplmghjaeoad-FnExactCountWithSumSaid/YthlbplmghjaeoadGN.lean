/- CountWithSum by the program. -/
import Derived.Test.YthlbplmghjaeoadGGL
import Derived.Test.YthlbplmghjaeoadKS
import Derived.Test.YthlbplmghjaeoadGJH
import Derived.Outline
namespace Go.Proofs.Ythlbplmghjaeoad
open Go.RowKit

theorem sum_count (W H : Nat) (hW : W ≤ 8) (hH : H ≤ 8) (h12 : W * H ≤ 12) (s : Nat) : (listGo W (W * H) (W * H)).countP (fun x => decide ((x.sms : Int) = (s : Int))) = cntA W (allM (W * H) (-1)) s := by
  rw [listGo_all W (W * H) h12, List.countP_map, cntA, ← List.countP_eq_length_filter]
  refine List.countP_congr fun c hc => ?_
  simp only [Function.comp]
  rw [pre_sums W H hW hH h12 c (allM_len hc) (allM_brd hc), decide_eq_true_iff, decide_eq_true_iff]
  omega
set_option maxRecDepth 100000 in
set_option maxHeartbeats 400000 in
theorem iCountWithSum_any (w h s : Int) (ws : World) :
    Calls Try.prog 12 #[.int .i64 w, .int .i64 h, .int .i64 s] ws fun e w' => e = .returned (.tuple #[.int .i64 (cwM w h s : Nat), .bool (cwB w h s)]) ∧ Below ws.heap.size ws w' := by
  have h1 := fun wr => isSmall_any w h wr
  rcases sz_case w h 12 with hs | ⟨hs, W, H, rfl, rfl, hW1, hW2, hH1, hH2, hn⟩
  · rw [hs] at h1
    have HB : Hid (cwB w h s = false) := by rw [Hid, cwB, hs]; rfl
    have HM : Hid (cwM w h s = 0) := by rw [Hid, cwM, HB.out]; rfl
    have H1 := Lib.hid h1
    clear hs h1
    go_enter Try.func12, Try.ntmps12
    go_wp2_with fail
    refine (H1.out _).mono ?_
    rintro e w1 ⟨rfl, rfl⟩
    go_wp2_with fail
    go_ret2
    exact ⟨by rw [HM.out, HB.out]; rfl, Below.refl _ _⟩
  · rw [hs] at h1
    have H1 := Lib.hid h1
    by_cases h0 : s < 0
    · have HB : Hid (cwB W H s = false) := by rw [Hid, cwB, hs, Bool.true_and, Bool.eq_false_iff, ne_eq, inB_iff]; omega
      have HM : Hid (cwM W H s = 0) := by rw [Hid, cwM, HB.out]; rfl
      clear hs h1
      go_enter Try.func12, Try.ntmps12
      go_wp2_with fail
      refine (H1.out _).mono ?_
      rintro e w1 ⟨rfl, rfl⟩
      go_wp2_with fail
      go_ret2
      exact ⟨by rw [HM.out, HB.out]; rfl, Below.refl _ _⟩
    · by_cases h5 : 500 < s
      · have HB : Hid (cwB W H s = false) := by rw [Hid, cwB, hs, Bool.true_and, Bool.eq_false_iff, ne_eq, inB_iff]; omega
        have HM : Hid (cwM W H s = 0) := by rw [Hid, cwM, HB.out]; rfl
        clear hs h1
        go_enter Try.func12, Try.ntmps12
        go_wp2_with fail
        refine (H1.out _).mono ?_
        rintro e w1 ⟨rfl, rfl⟩
        go_wp2_with fail
        go_ret2
        exact ⟨by rw [HM.out, HB.out]; rfl, Below.refl _ _⟩
      · obtain ⟨t, rfl⟩ : ∃ t : Nat, s = t := ⟨s.toNat, by omega⟩
        have h12 : W * H ≤ 12 := by omega
        have HB : Hid (cwB W H t = true) := by rw [Hid, cwB, hs, Bool.true_and, inB_iff]; omega
        have HM : Hid (cwM W H t = cntA W (allM (W * H) (-1)) t) := by rw [Hid, cwM, HB.out]; rfl
        have HSC := Lib.hid (sum_count W H hW2 hH2 h12 t)
        have eF : ∀ args w, (callFunc 35 args).run Try.prog w = .ok (.enter 35 args) w := enters_of Try.func35 (by kernel_rfl) rfl
        have eC : ∀ args w, (callFunc 67 args).run Try.prog w = .ok (.enter 67 args) w := enters_of Try.func67 (by kernel_rfl) rfl
        have hL0 : (listGo W (W * H) (W * H)).length = 2 ^ (W * H) := listGo_length W _ _ h12
        have hcb := counterBy_of W H (listGo W (W * H) (W * H)) (by rw [hL0]; exact Nat.two_pow_pos _) (by rw [hL0]; exact Nat.pow_le_pow_right (by decide) h12) (listBoards_any W H ⟨hW1, hW2⟩ ⟨hH1, hH2⟩ h12) 35 LB.sms (fun z => Nat.le_trans (z.smK_le 12) (by decide)) eF (fun z w => lbSumA_any z w)
        have HCB := Lib.hid hcb
        clear hs h1 hcb hL0
        generalize listGo W (W * H) (W * H) = L at *
        go_enter Try.func12, Try.ntmps12
        go_wp2_with fail
        refine (H1.out _).mono ?_
        rintro e w1 ⟨rfl, rfl⟩
        go_wp2_with fail
        refine (HCB.out _).mono ?_
        rintro e w2 ⟨pb, po, rfl, hb2, hcl⟩
        have hc2 := hcl t [] none 0 w2 (Below.refl _ _) ⟨by omega, by omega⟩ (by simp) (by simp) (by intro k hk; simp at hk)
        have HC2 := Lib.hid hc2
        clear hcl hc2
        go_wp2_with (go_at_fn 67; refine HC2.out.mono ?_; rintro e w3 ⟨rfl, hb3⟩)
        go_ret2
        exact ⟨by rw [HM.out, HB.out, ← HSC.out]; rfl, hb2.trans (hb3.mono hb2.size)⟩
end Go.Proofs.Ythlbplmghjaeoad
