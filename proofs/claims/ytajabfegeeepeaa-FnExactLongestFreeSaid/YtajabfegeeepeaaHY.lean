/- Strips: lists with a mine in a cell, by the model. -/
import Derived.Test.YtajabfegeeepeaaHI
import Derived.Test.YtajabfegeeepeaaHX
import Derived.Test.YtajabfegeeepeaaHN
import Derived.Deep.DeepCutAuto
import Derived.Deep.LoopGhost
namespace Go.Proofs.Ytajabfegeeepeaa
open Go.RowKit Go.BigFrame

/-- The model passes over these. -/
def skB (s : List UInt8) (cell : Nat) (x b : Bool) : Bool := (decide (cell = 0) && x) || ((decide (cell + 1 = s.length) && b) || !canM s cell x true b)
theorem stA_skip {s : List UInt8} {cell : Nat} {x b : Bool} (h : skB s cell x b = true) : stA s cell x b = 0 := by
  unfold skB at h
  unfold stA
  cases hc : canM s cell x true b with
  | false => rfl
  | true =>
    rw [gd_true]
    rw [hc] at h
    simp at h
    rcases h with ⟨h1, h2⟩ | ⟨h1, h2⟩
    · subst h1; subst h2
      simp [cE]
    · subst h2
      have : s.length - 1 - cell = 0 := by omega
      rw [this]
      simp [cE]
theorem stA_mul {s : List UInt8} {cell : Nat} {x b : Bool} (h : skB s cell x b = false) : stA s cell x b = cE s.reverse cell true x * cE s (s.length - 1 - cell) true b := by
  unfold skB at h
  unfold stA
  cases hc : canM s cell x true b with
  | false => rw [hc] at h; simp at h
  | true => rfl
theorem cE_le (s : List UInt8) : ∀ j h n, cE s j h n ≤ 2 ^ j
  | 0, h, n => by unfold cE; split <;> decide
  | j + 1, h, n => by
    have hb : ∀ b, gd (canM s (s.length - 1 - j) h n b) (cE s j n b) ≤ 2 ^ j := by
      intro b
      cases canM s (s.length - 1 - j) h n b with
      | true => exact cE_le s j n b
      | false => exact Nat.zero_le _
    rw [cE, Nat.pow_succ]
    have := hb true
    have := hb false
    omega
theorem cE_mul {s : List UInt8} (h40 : s.length ≤ 40) {cell : Nat} (hc : cell < s.length) (x b : Bool) : cE s.reverse cell true x * cE s (s.length - 1 - cell) true b ≤ 1099511627776 := by
  refine Nat.le_trans (Nat.mul_le_mul (cE_le _ _ _ _) (cE_le _ _ _ _)) ?_
  rw [← Nat.pow_add]
  exact Nat.le_trans (Nat.pow_le_pow_right (by decide) (show cell + (s.length - 1 - cell) ≤ 40 by omega)) (by decide)
theorem stA_le {s : List UInt8} (h40 : s.length ≤ 40) {cell : Nat} (hc : cell < s.length) (x b : Bool) : stA s cell x b ≤ 1099511627776 := by
  unfold stA
  cases canM s cell x true b with
  | true => exact cE_mul h40 hc x b
  | false => exact Nat.zero_le _
/-- What the first pairs come to. -/
def aqT (s : List UInt8) (cell i : Nat) : Nat := stA s cell (decide (i / 2 = 1)) (decide (i % 2 = 1))
theorem aq_all (s : List UInt8) (cell : Nat) : sumN 4 (aqT s cell) = stAtM s cell := by
  simp only [sumN, aqT, stAtM]
  simp only [Nat.reduceDiv, Nat.reduceMod]
  simp
  omega
theorem aq_at {s : List UInt8} {cell x b : Nat} (hx : x < 2) (hb : b < 2) : aqT s cell (2 * x + b) = stA s cell (decide (x = 1)) (decide (b = 1)) := by
  rw [aqT, show (2 * x + b) / 2 = x by omega, show (2 * x + b) % 2 = b by omega]
theorem aq_le {s : List UInt8} (h40 : s.length ≤ 40) {cell : Nat} (hc : cell < s.length) : ∀ i, i ≤ 4 → sumN i (aqT s cell) ≤ 4398046511104 := by
  have h1 : ∀ i, aqT s cell i ≤ 1099511627776 := fun i => stA_le h40 hc _ _
  intro i hi
  have h0 := h1 0
  have h2 := h1 1
  have h3 := h1 2
  have h4 := h1 3
  match i, hi with
  | 0, _ => exact Nat.zero_le _
  | 1, _ => simp only [sumN]; omega
  | 2, _ => simp only [sumN]; omega
  | 3, _ => simp only [sumN]; omega
  | 4, _ => simp only [sumN]; omega
theorem rev_stM {s : List UInt8} (hg : stM s = true) : stM s.reverse = true := by
  unfold stM at hg ⊢
  rw [List.length_reverse, List.all_reverse]
  exact hg
/-- A row of the table that is made. -/
theorem en_row {s : List UInt8} (h40 : s.length ≤ 40) {k x : Nat} (hk : k < s.length) (hx : x < 2) : sumN 41 (enT s k (2 + x)) = cE s (s.length - 1 - k) true (decide (x = 1)) := by
  rw [← endS_cE s (s.length - 1 - k) true (decide (x = 1)) 41 (by omega)]
  refine sumN_congr fun m _ => ?_
  rw [show 2 + x = 2 * 1 + x by omega, enT_part (by decide) hx]
  rfl

set_option maxRecDepth 100000 in
set_option maxHeartbeats 6400000 in
theorem stAt_any (s : List UInt8) (hg : stM s = true) (cell : Nat) (hcell : cell < s.length) (w : World) :
    Calls Try.prog 51 #[.string ⟨s.toArray⟩, .int .i64 (cell : Int)] w fun e w' => e = .returned (.int .i64 (stAtM s cell : Nat)) ∧ Below w.heap.size w w' := by
  obtain ⟨hn1, hn40, hst⟩ := stM_facts hg
  have hrl : s.reverse.length = s.length := List.length_reverse
  have HEN := Lib.hid fun w => stEnds_any s hg w
  have hbeg := fun w => stEnds_any s.reverse (rev_stM hg) w
  rw [hrl] at hbeg
  have HBE := Lib.hid hbeg
  have HBK := Lib.hid fun w => stBack_any s w (by omega)
  have HALL := Lib.hid (aq_all s cell)
  have HLE := Lib.hid fun i hi => aq_le hn40 hcell i hi
  have HCAN := Lib.hid fun x b w => (stCan_any s hst cell x true b w (by omega) hn40).mono fun e w' ⟨h1, h2⟩ => (⟨h1, h2.symm⟩ : e = Ending.returned (.bool (canM s cell x true b)) ∧ w' = w)
  clear hbeg hrl hst
  go_enter Try.func51, Try.ntmps51
  go_wp2_with fail
  refine (HEN.out _).mono ?_
  rintro e w1 ⟨rfl, hE1, hb1⟩
  go_wp2_with fail
  refine (HBK.out _).mono ?_
  rintro e w2 ⟨rfl, rfl⟩
  go_wp2_with fail
  refine (HBE.out _).mono ?_
  rintro e w3 ⟨rfl, hB3, hb3⟩
  have hE3 := (hb3.block _ (block_lt hE1)).trans hE1
  have hb03 := hb1.trans (hb3.mono hb1.size)
  have HB := Lib.hid hb03
  have HRE := Lib.hid hE3
  have HRB := Lib.hid hB3
  clear hE1 hE3 hB3 hb1 hb3 hb03
  generalize w2.heap.size = gB at *
  go_wp2_with fail
  go_loop [5, 9] (fun cv xv => ∃ x : Nat, x ≤ 2 ∧ xv = .int .i64 x ∧ cv = .int .i64 (sumN (2 * x) (aqT s cell) : Nat)) (fun _ v => 2 - (intOf v).toNat)
  case atStart => exact ⟨0, by omega, rfl, rfl⟩
  case round =>
    obtain ⟨x, hx, rfl, rfl⟩ := hrel
    by_cases hx2 : x < 2
    · have hxz : (x : Int) < 2 := by omega
      go_wp2_with fail
      go_loopg [5, 10] 2 (fun kx cv bv wr => ∃ b : Nat, b ≤ 2 ∧ 2 - b ≤ kx ∧ bv = .int .i64 b ∧ cv = .int .i64 (sumN (2 * x + b) (aqT s cell) : Nat) ∧ wr = w3)
      case atStart => exact ⟨0, by omega, by omega, rfl, rfl, rfl⟩
      case round =>
        obtain ⟨b, hb, hkb, rfl, rfl, rfl⟩ := hrel
        by_cases hb2 : b < 2
        · have hbz : (b : Int) < 2 := by omega
          obtain ⟨sk, hsk⟩ : ∃ sk, sk = skB s cell (decide (x = 1)) (decide (b = 1)) := ⟨_, rfl⟩
          have hcan := fun w => HCAN.out (decide (x = 1)) (decide (b = 1)) w
          rw [bitN hx2, bitN hb2, show ((true.toNat : Nat) : Int) = 1 from rfl] at hcan
          have HC := Lib.hid hcan
          have HSK := Lib.hid hsk
          have hskD : Hid (sk = ((decide (cell = 0) && decide (x = 1)) || ((decide (cell + 1 = s.length) && decide (b = 1)) || !canM s cell (decide (x = 1)) true (decide (b = 1))))) := hsk
          have HNX : Hid (sumN (2 * x + (b + 1)) (aqT s cell) = sumN (2 * x + b) (aqT s cell) + stA s cell (decide (x = 1)) (decide (b = 1))) := by
            rw [Hid, ← aq_at hx2 hb2]; rfl
          have hle1 := HLE.out (2 * x + b) (by omega)
          generalize sumN (2 * x + b) (aqT s cell) = acc at *
          clear hcan hsk
          go_upto_region 10 with fail
          go_cut [55] (fun v wx => v = .bool sk ∧ wx = wr)
          case first =>
            generalize canM s cell (decide (x = 1)) true (decide (b = 1)) = cn at *
            by_cases c1 : cell = 0 <;> by_cases c2 : x = 1 <;> by_cases c3 : cell + 1 = s.length <;> by_cases c4 : b = 1
            all_goals
              have d1 : ((cell : Int) == 0) = decide (cell = 0) := by rw [Bool.eq_iff_iff, beq_iff_eq, decide_eq_true_iff]; omega
              have d2 : ((x : Int) == 1) = decide (x = 1) := by rw [Bool.eq_iff_iff, beq_iff_eq, decide_eq_true_iff]; omega
              have d3 : ((cell : Int) == (s.length : Int) - 1) = decide (cell + 1 = s.length) := by rw [Bool.eq_iff_iff, beq_iff_eq, decide_eq_true_iff]; omega
              have d4 : ((b : Int) == 1) = decide (b = 1) := by rw [Bool.eq_iff_iff, beq_iff_eq, decide_eq_true_iff]; omega
              have hS := hskD.out
              first | rw [decide_eq_true c1] at d1 hS | rw [decide_eq_false c1] at d1 hS
              first | rw [decide_eq_true c2] at d2 hS | rw [decide_eq_false c2] at d2 hS
              first | rw [decide_eq_true c3] at d3 hS | rw [decide_eq_false c3] at d3 hS
              first | rw [decide_eq_true c4] at d4 hS | rw [decide_eq_false c4] at d4 hS
              simp only [Bool.true_and, Bool.false_and, Bool.and_true, Bool.and_false, Bool.true_or, Bool.false_or] at hS
              have HS := Lib.hid hS
              clear hS c1 c2 c3 c4
              go_wp2_with fail
              first
                | (refine (HC.out _).mono ?_
                   rintro e w6 ⟨rfl, rfl⟩
                   go_wp2_with fail
                   go_meet
                   exact ⟨by rw [HS.out], rfl⟩)
                | (go_meet
                   exact ⟨by rw [HS.out], rfl⟩)
          case rest =>
          obtain ⟨rfl, rfl⟩ := hcut
          cases sk with
          | true =>
            have HZ := Lib.hid (stA_skip HSK.out.symm)
            clear hskD HC HSK
            go_wp2_with fail
            go_roundg (2 - (b + 1))
            case measure => omega
            case rel => exact ⟨b + 1, by omega, by omega, by go_num, by rw [HNX.out, HZ.out, Nat.add_zero], rfl⟩
          | false =>
            have hmul := stA_mul HSK.out.symm
            have hcm := cE_mul hn40 hcell (decide (x = 1)) (decide (b = 1))
            obtain ⟨k', hk'⟩ : ∃ k', k' = s.length - 1 - cell := ⟨_, rfl⟩
            have hkl : k' < s.length := by omega
            have e1 : (s.length : Int) - 1 - (cell : Int) = (k' : Int) := by omega
            have hL := en_row (s := s.reverse) (by rw [List.length_reverse]; exact hn40) (k := k') (by rw [List.length_reverse]; exact hkl) hx2
            rw [List.length_reverse, show s.length - 1 - k' = cell by omega] at hL
            have hR := en_row (s := s) hn40 (k := cell) hcell hb2
            obtain ⟨QL, hQL⟩ : ∃ q, q = 2 + x := ⟨_, rfl⟩
            obtain ⟨QR, hQR⟩ : ∃ q, q = 2 + b := ⟨_, rfl⟩
            have eL : (2 : Int) + (x : Int) = (QL : Int) := by omega
            have eR : (2 : Int) + (b : Int) = (QR : Int) := by omega
            have hrgL := mem_range HRB.out hkl (show QL < 4 by omega)
            have hrgR := mem_range HRE.out hcell (show QR < 4 by omega)
            have hrwL : rwT s.reverse 0 k' QL = enT s.reverse k' (2 + x) := by funext m; rw [rwT, if_pos (Nat.zero_le _), hQL]
            have hrwR : rwT s 0 cell QR = enT s cell (2 + b) := by funext m; rw [rwT, if_pos (Nat.zero_le _), hQR]
            rw [hrwL] at hrgL
            rw [hrwR] at hrgR
            obtain ⟨AL, hAL⟩ : ∃ A, A = enT s.reverse k' (2 + x) := ⟨_, rfl⟩
            obtain ⟨AR, hAR⟩ : ∃ A, A = enT s cell (2 + b) := ⟨_, rfl⟩
            rw [← hAL] at hL hrgL
            rw [← hAR] at hR hrgR
            obtain ⟨SL, hSL⟩ : ∃ S, S = sumN 41 AL := ⟨_, rfl⟩
            obtain ⟨SR, hSR⟩ : ∃ S, S = sumN 41 AR := ⟨_, rfl⟩
            rw [← hL, ← hR, ← hSL, ← hSR] at hmul hcm
            have hSLl : SL ≤ 1099511627776 := by
              rw [hSL, hL]
              exact Nat.le_trans (cE_le _ _ _ _) (Nat.le_trans (Nat.pow_le_pow_right (by decide) (show cell ≤ 40 by omega)) (by decide))
            have hSRl : SR ≤ 1099511627776 := by
              rw [hSR, hR]
              exact Nat.le_trans (cE_le _ _ _ _) (Nat.le_trans (Nat.pow_le_pow_right (by decide) (show s.length - 1 - cell ≤ 40 by omega)) (by decide))
            obtain ⟨M, hM⟩ : ∃ M, M = SL * SR := ⟨_, rfl⟩
            rw [← hM] at hmul hcm
            have hMz : (SL : Int) * (SR : Int) = (M : Int) := by rw [hM]; simp
            have HMUL := Lib.hid hmul
            have HSL := Lib.hid hSL
            have HSR := Lib.hid hSR
            have hQL4 : QL < 4 := by omega
            have hQR4 : QR < 4 := by omega
            clear hk' hL hR hQL hQR hrwL hrwR hAL hAR hSL hSR hM hskD HC HSK hmul
            have j1 := fun w' => ia88 gB s.length k' hkl w'
            have j2 := fun w' => ia91 gB (k' * 164) QL hQL4 w'
            have HJ := Lib.hid fun w' => ia88 w.heap.size s.length cell hcell w'
            have HJ2 := Lib.hid fun w' => ia91 w.heap.size (cell * 164) QR hQR4 w'
            have HRG := Lib.hid hrgR
            clear hrgR
            go_upto_region 12 with fail
            go_wp2_with (first | (refine wpList_load_mid rfl 53 _ rfl gB (k' * 164 + QL * 41) (by rfl) (wvL AL) _ hrgL Try.underlying53 rfl (wvInfo61.trans (by simp [wvL])) ?_))
            rw [show (wvL AL).toArray = wvA AL from rfl]
            clear j1 j2 hrgL e1 eL
            go_loop [11, 66] (fun v i => ∃ k : Nat, k ≤ 41 ∧ i = .int .i64 k ∧ v = .int .i64 (sumN k AL : Nat)) (fun _ i => 41 - (intOf i).toNat)
            case atStart => exact ⟨0, by omega, rfl, rfl⟩
            case round =>
              obtain ⟨k, hk, rfl, rfl⟩ := hrel
              by_cases hlt : k < 41
              · have hix := fun w => idx61 (wvA AL) k _ hlt (wvA_get AL hlt) w
                have hkz : (k : Int) < 41 := by omega
                have hs1 := sumN_le_len (show k + 1 ≤ 41 by omega) AL
                rw [sumN, ← HSL.out] at hs1
                have hsn : Hid (sumN (k + 1) AL = sumN k AL + AL k) := rfl
                generalize sumN k AL = sk at *
                generalize AL k = fk at *
                go_wp2_with fail
                go_round
                case rel => exact ⟨k + 1, by omega, by go_num, by rw [hsn.out]; go_num⟩
                case measure => simp [intOf]; omega
              · obtain rfl : k = 41 := by omega
                rw [← HSL.out]
                have j1 := HJ.out
                have j2 := HJ2.out
                go_wp2_with (first | (refine wpList_load_mid rfl 53 _ rfl w.heap.size (cell * 164 + QR * 41) (by rfl) (wvL AR) _ HRG.out Try.underlying53 rfl (wvInfo61.trans (by simp [wvL])) ?_))
                rw [show (wvL AR).toArray = wvA AR from rfl]
                clear j1 j2 eR
                go_loop [12, 80] (fun v i => ∃ k : Nat, k ≤ 41 ∧ i = .int .i64 k ∧ v = .int .i64 (sumN k AR : Nat)) (fun _ i => 41 - (intOf i).toNat)
                case atStart => exact ⟨0, by omega, rfl, rfl⟩
                case round =>
                  obtain ⟨k, hk, rfl, rfl⟩ := hrel
                  by_cases hlt : k < 41
                  · have hix := fun w => idx61 (wvA AR) k _ hlt (wvA_get AR hlt) w
                    have hkz : (k : Int) < 41 := by omega
                    have hs1 := sumN_le_len (show k + 1 ≤ 41 by omega) AR
                    rw [sumN, ← HSR.out] at hs1
                    have hsn : Hid (sumN (k + 1) AR = sumN k AR + AR k) := rfl
                    generalize sumN k AR = sk at *
                    generalize AR k = fk at *
                    go_wp2_with fail
                    go_round
                    case rel => exact ⟨k + 1, by omega, by go_num, by rw [hsn.out]; go_num⟩
                    case measure => simp [intOf]; omega
                  · obtain rfl : k = 41 := by omega
                    rw [← HSR.out]
                    go_wp2_with fail
                    go_roundg (2 - (b + 1))
                    case measure => omega
                    case rel => exact ⟨b + 1, by omega, by omega, by go_num, by rw [HNX.out, HMUL.out]; go_num, rfl⟩
        · obtain rfl : b = 2 := by omega
          go_wp2_with fail
          go_round
          case rel => exact ⟨x + 1, by omega, by go_num, by rw [show 2 * (x + 1) = 2 * x + 2 by omega]⟩
          case measure => simp [intOf]; omega
    · obtain rfl : x = 2 := by omega
      go_wp2_with fail
      go_ret
      exact ⟨by rw [← HALL.out]; rfl, HB.out⟩
end Go.Proofs.Ytajabfegeeepeaa
