/- GO, GP, laid as one text. -/
import Derived.Test.YthlbplmghjaeoaeGGL
import Derived.Test.YthlbplmghjaeoaeGE
import Derived.Test.YthlbplmghjaeoaeGJ9
import Derived.Test.YthlbplmghjaeoaeK2
import Derived.Outline

/- Boards counted by mines and conditions: countWithMines, CountZeroBoards, CountMostApart by the program. -/
namespace Go.Proofs.Ythlbplmghjaeoae
open Go.RowKit

/-- What countWithMines hands back. -/
def cwN (w h m : Int) (cs : List Cnd) : Nat := if cbB w h m = true then (listGo w.toNat (w.toNat * h.toNat) (w.toNat * h.toNat)).countP (fun x => decide ((x.mns : Int) = m) && cs.all fun c => c.p x) else 0
theorem ms_small (w h m : Int) (hs : szB w h 12 = true) : msB w h m = inB m 0 (w * h) := by
  rw [szB, Bool.and_eq_true, Bool.and_eq_true] at hs
  rw [msB, szB, hs.1.1, hs.1.2]
  simp
  have := hs.2
  simp at this
  omega
set_option maxRecDepth 100000 in
set_option maxHeartbeats 400000 in
theorem countWithMines_any (w h m : Int) (cs : List Cnd) (a : Option Addr) (ca : Nat) (ws : World) (hl : cs.length ≤ 1000) (hc : ∀ c ∈ cs, c.ok ws) (hat : At ws a (cs.map Cnd.v)) :
    Calls Try.prog 39 #[.int .i64 w, .int .i64 h, .int .i64 m, .slice a cs.length ca] ws fun e w' => e = .returned (.tuple #[.int .i64 (cwN w h m cs : Nat), .bool (cbB w h m)]) ∧ Below ws.heap.size ws w' := by
  have h1 := fun wr => isSmall_any w h wr
  have h2 := fun wr => isMines_any w h m wr
  rcases sz_case w h 12 with hs | ⟨hs, W, H, rfl, rfl, hW1, hW2, hH1, hH2, hn⟩
  · rw [hs] at h1
    have HB : Hid (cbB w h m = false) := by rw [Hid, cbB, hs]; rfl
    have HM : Hid (cwN w h m cs = 0) := by rw [Hid, cwN, HB.out]; rfl
    have H1 := Lib.hid h1
    clear hs h1 h2 hc hat
    generalize cs.length = n at *
    go_enter Try.func39, Try.ntmps39
    go_wp2_with fail
    refine (H1.out _).mono ?_
    rintro e w1 ⟨rfl, rfl⟩
    go_wp2_with fail
    go_ret2
    exact ⟨by rw [HM.out, HB.out]; rfl, Below.refl _ _⟩
  · rw [hs] at h1
    have H1 := Lib.hid h1
    have hms := ms_small W H m hs
    cases hi : inB m 0 ((W : Int) * (H : Int)) with
    | false =>
      have HB : Hid (cbB W H m = false) := by rw [Hid, cbB, hs, hi]; rfl
      have HM : Hid (cwN W H m cs = 0) := by rw [Hid, cwN, HB.out]; rfl
      rw [hms, hi] at h2
      have H2 := Lib.hid h2
      clear hs h1 h2 hc hat hms hi
      generalize cs.length = n at *
      go_enter Try.func39, Try.ntmps39
      go_wp2_with fail
      refine (H1.out _).mono ?_
      rintro e w1 ⟨rfl, rfl⟩
      go_wp2_with fail
      refine (H2.out _).mono ?_
      rintro e w1 ⟨rfl, rfl⟩
      go_wp2_with fail
      go_ret2
      exact ⟨by rw [HM.out, HB.out]; rfl, Below.refl _ _⟩
    | true =>
      have h12 : W * H ≤ 12 := by omega
      have hmi := inB_iff.1 hi
      have HB : Hid (cbB W H m = true) := by rw [Hid, cbB, hs, hi]; rfl
      have HM : Hid (cwN W H m cs = (listGo W (W * H) (W * H)).countP (fun x => decide ((x.mns : Int) = m) && cs.all fun c => c.p x)) := by rw [Hid, cwN, HB.out]; rfl
      rw [hms, hi] at h2
      have H2 := Lib.hid h2
      have hm1 : 0 ≤ m := hmi.1
      have hm2 : m ≤ 12 := by
        have := hmi.2
        rw [← Int.natCast_mul] at this
        omega
      have eF : ∀ args w, (callFunc 31 args).run Try.prog w = .ok (.enter 31 args) w := enters_of Try.func31 (by kernel_rfl) rfl
      have eC : ∀ args w, (callFunc 77 args).run Try.prog w = .ok (.enter 77 args) w := enters_of Try.func77 (by kernel_rfl) rfl
      have hL0 : (listGo W (W * H) (W * H)).length = 2 ^ (W * H) := listGo_length W _ _ h12
      have hcb := counterBy_of W H (listGo W (W * H) (W * H)) (by rw [hL0]; exact Nat.two_pow_pos _) (by rw [hL0]; exact Nat.pow_le_pow_right (by decide) h12) (listBoards_any W H ⟨hW1, hW2⟩ ⟨hH1, hH2⟩ h12) 31 LB.mns (fun z => Nat.le_trans (z.mnK_le 12) (by decide)) eF (fun z w => lbMinesA_any z w)
      have HCB := Lib.hid hcb
      have HCO := Lib.hid hc
      have HAT := Lib.hid hat
      clear hs h1 h2 hcb hL0 hc hat hms hi hmi eF
      generalize listGo W (W * H) (W * H) = L at *
      generalize hnn : cs.length = n at *
      have HNN := Lib.hid hnn
      clear hnn
      go_enter Try.func39, Try.ntmps39
      go_wp2_with fail
      refine (H1.out _).mono ?_
      rintro e w1 ⟨rfl, rfl⟩
      go_wp2_with fail
      refine (H2.out _).mono ?_
      rintro e w1 ⟨rfl, rfl⟩
      go_wp2_with fail
      refine (HCB.out _).mono ?_
      rintro e w2 ⟨pb, po, rfl, hb2, hcl⟩
      have hc2 := hcl m cs a ca w2 (Below.refl _ _) ⟨by omega, by omega⟩ (by rw [HNN.out]; exact hl) (fun c hc => (HCO.out c hc).later hb2) (HAT.out.later rfl hb2)
      rw [HNN.out, ← HM.out] at hc2
      have HC2 := Lib.hid hc2
      clear hcl hc2
      go_wp2_with (go_at_fn 77; refine HC2.out.mono ?_; rintro e w3 ⟨rfl, hb3⟩)
      go_ret2
      exact ⟨by rw [HB.out]; rfl, hb2.trans (hb3.mono hb2.size)⟩
end Go.Proofs.Ythlbplmghjaeoae

/- CountZeroBoards by the program. -/
namespace Go.Proofs.Ythlbplmghjaeoae
open Go.RowKit

theorem allM_mines (n : Nat) (m : Int) (hm : 0 ≤ m) : allM n m = (allM n (-1)).filter fun c => decide (((places 42 c).length : Int) = m) := by
  rw [allM, allM, allK, allK, List.filter_filter]
  refine List.filter_congr fun c _ => ?_
  simp only [mnB]
  rw [decide_eq_false (show ¬ m < 0 by omega), decide_eq_true (show (-1 : Int) < 0 by omega)]
  simp
theorem zr_fit (W : Nat) (c : List UInt8) : zrB W c = !fitK c W c.length := by
  unfold zrB fitK
  rw [Bool.eq_iff_iff, List.any_eq_true, Bool.not_eq_true', Bool.eq_false_iff, ne_eq, List.all_eq_true]
  constructor
  · rintro ⟨i, hi, h⟩ hall
    have h2 := hall i hi
    unfold zfB at h
    unfold nfB at h2
    simp at h h2
    rcases h2 with q | q
    · exact h.1 q
    · omega
  · intro h
    obtain ⟨i, hi⟩ := Classical.not_forall.1 h
    obtain ⟨hi, hn⟩ := Classical.not_imp.1 hi
    refine ⟨i, hi, ?_⟩
    unfold nfB at hn
    unfold zfB
    simp at hn ⊢
    exact hn
theorem mns_count (W H : Nat) (h12 : W * H ≤ 12) (m : Int) (hm : 0 ≤ m) (q : LB → Bool) (p : List UInt8 → Bool) (hq : ∀ c ∈ allM (W * H) (-1), q (preB W (W * H) c) = p c) :
    (listGo W (W * H) (W * H)).countP (fun x => decide ((x.mns : Int) = m) && q x) = ((allM (W * H) m).filter p).length := by
  rw [listGo_all W (W * H) h12, List.countP_map, allM_mines (W * H) m hm, List.filter_filter, ← List.countP_eq_length_filter]
  refine List.countP_congr fun c hc => ?_
  simp only [Function.comp]
  rw [hq c hc, pre_mns W (W * H) c (allM_len hc) h12, Bool.and_comm]
theorem cz_eq (w h m : Int) : cwN w h m [⟨42, #[], LB.hz⟩] = czM w h m := by
  unfold cwN czM
  by_cases hb : cbB w h m = true
  · rw [if_pos hb, if_pos hb]
    have hs : szB w h 12 = true := by unfold cbB at hb; rw [Bool.and_eq_true] at hb; exact hb.1
    have hi : inB m 0 (w * h) = true := by unfold cbB at hb; rw [Bool.and_eq_true] at hb; exact hb.2
    rcases sz_case w h 12 with q | ⟨_, W, H, rfl, rfl, hW1, hW2, hH1, hH2, hn⟩
    · rw [q] at hs; cases hs
    · simp only [Int.toNat_natCast]
      refine mns_count W H (by omega) m (inB_iff.1 hi).1 (fun x => [(⟨42, #[], LB.hz⟩ : Cnd)].all fun c => c.p x) (zrB W) fun c hc => ?_
      simp only [List.all_cons, List.all_nil, Bool.and_true]
      rw [pre_hz W H hW2 hH2 (by omega) c (allM_len hc) (allM_brd hc), zr_fit]
  · rw [if_neg hb, if_neg hb]
set_option maxRecDepth 100000 in
set_option maxHeartbeats 400000 in
theorem iCountZeroBoards_any (w h m : Int) (ws : World) :
    Calls Try.prog 17 #[.int .i64 w, .int .i64 h, .int .i64 m] ws fun e w' => e = .returned (.tuple #[.int .i64 (czM w h m : Nat), .bool (cbB w h m)]) ∧ Below ws.heap.size ws w' := by
  have eC : ∀ args w, (callFunc 42 args).run Try.prog w = .ok (.enter 42 args) w := enters_of Try.func42 (by kernel_rfl) rfl
  have hcw := fun (w1 : World) (a : Option Addr) (ca : Nat) (hat : At w1 a [.func (.func 42) #[] #[]]) => countWithMines_any w h m [⟨42, #[], LB.hz⟩] a ca w1 (by simp) (fun c hc => by
    obtain rfl : c = ⟨42, #[], LB.hz⟩ := by simpa using hc
    exact ⟨eC, fun x W _ => lbZero_any x W⟩) hat
  rw [cz_eq] at hcw
  have HCW := Lib.hid hcw
  clear hcw eC
  go_enter Try.func17, Try.ntmps17
  go_wp2_with fail
  refine (HCW.out _ (some ⟨ws.heap.size, 0, none⟩) 1 (fun k hk => by
    have h0 : k = 0 := by simp at hk; omega
    subst h0
    exact ⟨_, _, rfl, by simp⟩)).mono ?_
  rintro e w2 ⟨rfl, hb2⟩
  have hb1 : Below ws.heap.size ws w2 := Below.trans ((Below.refl _ _).alloc (Nat.le_refl _) _) (hb2.mono (by simp))
  clear hb2
  go_wp2_with fail
  go_ret2
  exact ⟨rfl, hb1⟩
end Go.Proofs.Ythlbplmghjaeoae
