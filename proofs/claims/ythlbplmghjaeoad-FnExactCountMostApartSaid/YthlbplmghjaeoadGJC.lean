/- JC, JD, JE, JF, laid as one text. -/
import Derived.Test.YthlbplmghjaeoadGJ9
import Derived.Test.YthlbplmghjaeoadE
import Derived.Deep.QuietTactic
import Derived.BigQuiet
import Derived.StillTailTactics
import Derived.Deep.RegionHeld3
import Derived.IntWalk
import Derived.Outline

/- Counts by the model: fractions in lowest terms. -/
namespace Go.Proofs.Ythlbplmghjaeoad
open Go.RowKit

theorem gcd_round (a b : Nat) : Nat.gcd b (a % b) = Nat.gcd a b := by
  rw [Nat.gcd_comm b, ← Nat.gcd_rec, Nat.gcd_comm]

theorem Owns.two (w : World) (B e : Nat) (x y : Value) (hB : B ≤ w.heap.size) : Owns (w.alloc (.cells #[x, y] e)) B e (.slice (some ⟨w.heap.size, 0, none⟩) 2 2) [x, y] := by
  refine ⟨by simp, .inr ⟨w.heap.size, 2, #[x, y], by simp, hB, heap_alloc_new w _, by simp, by simp [maxLen], by simp, by simp⟩⟩
theorem toDrewJ {B : Nat} {w w' : World} (h : Below B w w') : Below B w w'.drew := ⟨h.os, h.tape, h.output, h.size, h.block⟩

set_option maxRecDepth 100000 in
set_option maxHeartbeats 1600000 in
theorem viLow_any (num den : Nat) (hd : 0 < den) (hn1 : num ≤ 1099511627776) (hn2 : den ≤ 1099511627776) (w : World) :
    Calls Try.prog 40 #[.int .i64 num, .int .i64 den] w fun e w' => ∃ a cap, e = .returned (.slice a 2 cap) ∧ Owns w' w.heap.size 3 (.slice a 2 cap) (nats [num / Nat.gcd num den, den / Nat.gcd num den]) ∧ Below w.heap.size w w' := by
  have hg0 : 0 < Nat.gcd num den := Nat.gcd_pos_of_pos_right _ hd
  have HG0 : Hid (Nat.gcd num den = Nat.gcd num den) := rfl
  generalize hgg : Nat.gcd num den = g at *
  have HGG := Lib.hid hgg
  clear hgg HG0
  go_enter Try.func40, Try.ntmps40
  go_wp2_with fail
  go_loopw [5, 6] (fun x y wr => ∃ a b : Nat, x = .int .i64 a ∧ y = .int .i64 b ∧ a ≤ 1099511627776 ∧ b ≤ 1099511627776 ∧ Hid (Nat.gcd a b = g) ∧ Below w.heap.size w wr) (fun _ y _ => (intOf y).toNat)
  case atStart => exact ⟨num, den, rfl, rfl, hn1, hn2, HGG, Below.refl _ _⟩
  case round =>
    obtain ⟨a, b, rfl, rfl, ha, hb, hR, hw⟩ := hrel
    by_cases hb0 : b = 0
    · subst hb0
      have hR2 := hR.out
      rw [Nat.gcd_zero_right] at hR2
      subst hR2
      clear hR
      have ha1 : ((a : Int) == 0) = false := by simp; omega
      have ha2 : ¬ a = 0 := by omega
      have wr1 : ∀ q d : Nat, q ≤ 1099511627776 → IntKind.i64.wrap ((q : Int) / (d : Int)) = ((q / d : Nat) : Int) := by
        intro q d hq
        have h1 : q / d ≤ q := Nat.div_le_self _ _
        rw [← Int.natCast_ediv]
        generalize q / d = z at *
        exact IntWalk.i64_in _ ⟨by omega, by omega⟩
      have hw1 := wr1 num a hn1
      have hw2 := wr1 den a hn2
      have HN : Hid (nats [num / a, den / a] = [.int .i64 ((num / a : Nat) : Int), .int .i64 ((den / a : Nat) : Int)]) := rfl
      clear wr1
      generalize hq1 : num / a = q1 at *
      generalize hq2 : den / a = q2 at *
      have HQ1 := Lib.hid hq1
      have HQ2 := Lib.hid hq2
      clear hq1 hq2
      go_wp2_with fail
      go_region_held3 (fun _ => True) (trivial) (fail)
      all_goals
        go_wp2_with fail
        go_ret
        have hb1 := hw.alloc hw.size (.cells #[.int .i64 (q1 : Int), .int .i64 (q2 : Int)] 3)
        have ho := (Owns.two wr w.heap.size 3 (.int .i64 (q1 : Int)) (.int .i64 (q2 : Int)) hw.size).later (toDrewJ (Below.refl _ _))
        exact ⟨_, _, rfl, by rw [HQ1.out, HQ2.out, HN.out]; exact ho, toDrewJ hb1⟩
    · have hbp : 0 < b := by omega
      have hmod : (a : Int).tmod (b : Int) = ((a % b : Nat) : Int) := rfl
      have hml : a % b < b := Nat.mod_lt _ hbp
      have HR2 : Hid (Nat.gcd b (a % b) = g) := by rw [Hid, gcd_round, hR.out]
      clear hb0
      go_wp2_with fail
      go_quiet (fail)
      go_wp2_with fail
      go_roundw
      case rel => exact ⟨b, a % b, rfl, rfl, hb, by omega, HR2, below_drewN hw _⟩
      case measure => simp [intOf]; omega
end Go.Proofs.Ythlbplmghjaeoad

/- Counts by the model: mean sums. -/
namespace Go.Proofs.Ythlbplmghjaeoad
open Go.RowKit

theorem prsM_range (W H : Nat) (hW : 1 ≤ W ∧ W ≤ 8) (hH : 1 ≤ H ∧ H ≤ 8) : 0 ≤ prsM W H ∧ prsM W H ≤ 256 := by
  obtain ⟨a1, a2⟩ := mulB (a := (W : Int)) (b := (H : Int) - 1) ⟨by omega, by omega⟩ ⟨by omega, by omega⟩
  obtain ⟨b1, b2⟩ := mulB (a := (H : Int)) (b := (W : Int) - 1) ⟨by omega, by omega⟩ ⟨by omega, by omega⟩
  obtain ⟨c1, c2⟩ := mulB (a := (W : Int) - 1) (b := (H : Int) - 1) ⟨by omega, by omega⟩ ⟨by omega, by omega⟩
  have d : 2 * ((W : Int) - 1) * ((H : Int) - 1) = 2 * (((W : Int) - 1) * ((H : Int) - 1)) := by rw [Int.mul_assoc]
  unfold prsM
  omega
/-- A fraction in lowest terms. -/
def lowP (num den : Nat) : Nat × Nat := (num / Nat.gcd num den, den / Nat.gcd num den)
/-- What MeanSum hands back. -/
def msB (w h m : Int) : Bool := szB w h 64 && inB m 0 (w * h)
def msP (w h m : Int) : Nat × Nat :=
  if msB w h m = true then
    (if w.toNat * h.toNat = 1 then (0, 1) else lowP (2 * (prsM w h).toNat * m.toNat * (w.toNat * h.toNat - m.toNat)) (w.toNat * h.toNat * (w.toNat * h.toNat - 1)))
  else (0, 0)

set_option maxRecDepth 100000 in
set_option maxHeartbeats 1600000 in
theorem sMeanSum_any (w h m : Int) (ws : World) :
    Calls Try.prog 18 #[.int .i64 w, .int .i64 h, .int .i64 m] ws fun e w' => e = .returned (.tuple #[.int .i64 ((msP w h m).1 : Nat), .int .i64 ((msP w h m).2 : Nat), .bool (msB w h m)]) ∧ Below ws.heap.size ws w' := by
  have h1 := fun wr => ctSize_any w h 64 wr
  rcases sz_case w h 64 with hs | ⟨hs, W, H, rfl, rfl, hW1, hW2, hH1, hH2, hn⟩
  · have hb : msB w h m = false := by rw [msB, hs]; rfl
    rw [hs] at h1
    have HM : Hid (msP w h m = (0, 0)) := by rw [Hid, msP, hb]; rfl
    rw [hb]
    have H1 := Lib.hid h1
    clear hs h1 hb
    go_enter Try.func18, Try.ntmps18
    go_wp2_with fail
    refine (H1.out _).mono ?_
    rintro e w1 ⟨rfl, rfl⟩
    go_wp2_with fail
    go_ret3
    exact ⟨by rw [HM.out]; rfl, Below.refl _ _⟩
  · have hb : msB W H m = inB m 0 ((W : Int) * H) := by rw [msB, hs, Bool.true_and]
    rw [hs] at h1
    have hWH : (W : Int) * (H : Int) = ((W * H : Nat) : Int) := (Int.natCast_mul W H).symm
    have h2 := fun wr => l1In_any m 0 ((W : Int) * H) wr
    rw [← hb] at h2
    have hp1 : 1 ≤ W * H := Nat.mul_pos hW1 hH1
    obtain ⟨p1, p2⟩ := prsM_range W H ⟨hW1, hW2⟩ ⟨hH1, hH2⟩
    have HPR := Lib.hid (fun wr => ctPairs_any W H ⟨by omega, by omega⟩ ⟨by omega, by omega⟩ wr)
    have hM : msP W H m = if msB W H m = true then (if W * H = 1 then (0, 1) else lowP (2 * (prsM W H).toNat * m.toNat * (W * H - m.toNat)) (W * H * (W * H - 1))) else (0, 0) := rfl
    obtain ⟨q, hq⟩ : ∃ q : Nat, prsM W H = q := ⟨(prsM W H).toNat, by omega⟩
    rw [hq] at p1 p2 hM HPR
    rw [hWH] at hb h2
    generalize W * H = n at *
    have H1 := Lib.hid h1
    clear h1 hs
    cases e1 : msB W H m with
    | false =>
      rw [e1] at h2 hM
      have H2 := Lib.hid h2
      have HM := Lib.hid hM
      clear h2 hM e1 hb hq
      go_enter Try.func18, Try.ntmps18
      go_wp2_with fail
      refine (H1.out _).mono ?_
      rintro e w1 ⟨rfl, rfl⟩
      go_wp2_with fail
      refine (H2.out _).mono ?_
      rintro e w1 ⟨rfl, rfl⟩
      go_wp2_with fail
      go_ret3
      exact ⟨by rw [HM.out]; rfl, Below.refl _ _⟩
    | true =>
      rw [e1] at h2 hM hb
      obtain ⟨m1, m2⟩ := inB_iff.1 hb.symm
      obtain ⟨mm, rfl⟩ : ∃ mm : Nat, m = mm := ⟨m.toNat, by omega⟩
      have H2 := Lib.hid h2
      have hM := hM.trans (if_pos rfl)
      clear h2 hb hq e1
      have hn64 : n ≤ 64 := by omega
      by_cases hn1 : n = 1
      · have HM := Lib.hid (hM.trans (if_pos hn1))
        subst hn1
        clear hM
        go_enter Try.func18, Try.ntmps18
        go_wp2_with fail
        refine (H1.out _).mono ?_
        rintro e w1 ⟨rfl, rfl⟩
        go_wp2_with fail
        refine (H2.out _).mono ?_
        rintro e w1 ⟨rfl, rfl⟩
        go_wp2_with fail
        go_ret3
        exact ⟨by rw [HM.out]; rfl, Below.refl _ _⟩
      · have hM := hM.trans (if_neg hn1)
        have hd : ((n : Int) == 1) = false := by simp; omega
        have hmn : mm ≤ n := by omega
        have c1 : 2 * q * mm ≤ 512 * 64 := Nat.mul_le_mul (by omega) (by omega)
        have c2 : 2 * q * mm * (n - mm) ≤ 512 * 64 * 64 := Nat.mul_le_mul c1 (by omega)
        have c3 : n * (n - 1) ≤ 64 * 64 := Nat.mul_le_mul (by omega) (by omega)
        have c4 : 0 < n * (n - 1) := Nat.mul_pos (by omega) (by omega)
        have e1 : (2 : Int) * q * mm = ((2 * q * mm : Nat) : Int) := by simp
        have e2 : (2 : Int) * q * mm * (n - mm) = ((2 * q * mm * (n - mm) : Nat) : Int) := by rw [e1, ← Int.natCast_sub hmn, ← Int.natCast_mul]
        have e3 : (n : Int) * (n - 1) = ((n * (n - 1) : Nat) : Int) := by rw [show (n : Int) - 1 = ((n - 1 : Nat) : Int) by omega, ← Int.natCast_mul]
        have b1 : 0 ≤ (2 : Int) * q * mm := by omega
        have b2 : (2 : Int) * q * mm ≤ 512 * 64 := by omega
        have b3 : 0 ≤ (2 : Int) * q * mm * (n - mm) := by omega
        have b4 : (2 : Int) * q * mm * (n - mm) ≤ 512 * 64 * 64 := by omega
        have b5 : 0 ≤ (n : Int) * (n - 1) := by omega
        have b6 : (n : Int) * (n - 1) ≤ 64 * 64 := by omega
        have hv := fun wr => viLow_any (2 * q * mm * (n - mm)) (n * (n - 1)) c4 (by omega) (by omega) wr
        have hL : msP W H mm = (2 * q * mm * (n - mm) / Nat.gcd (2 * q * mm * (n - mm)) (n * (n - 1)), n * (n - 1) / Nat.gcd (2 * q * mm * (n - mm)) (n * (n - 1))) := by rw [hM]; rfl
        rw [← e2, ← e3] at hv
        generalize 2 * q * mm * (n - mm) / Nat.gcd (2 * q * mm * (n - mm)) (n * (n - 1)) = z1 at *
        generalize n * (n - 1) / Nat.gcd (2 * q * mm * (n - mm)) (n * (n - 1)) = z2 at *
        have HM := Lib.hid hL
        have HV := Lib.hid hv
        clear hM hL hv hn1 e1 e2 e3 c1 c2 c3 c4
        go_enter Try.func18, Try.ntmps18
        go_wp2_with fail
        refine (H1.out _).mono ?_
        rintro e w1 ⟨rfl, rfl⟩
        go_wp2_with fail
        refine (H2.out _).mono ?_
        rintro e w1 ⟨rfl, rfl⟩
        go_wp2_with fail
        refine (HPR.out _).mono ?_
        rintro e w1 ⟨rfl, rfl⟩
        go_wp2_with fail
        refine (HV.out _).mono ?_
        rintro e w2 ⟨a, cap, rfl, hown, hb2⟩
        obtain ⟨g, o, hag, hc0⟩ := hown.at 0 (by simp)
        obtain ⟨g', o', hag', hc1⟩ := hown.at 1 (by simp)
        subst hag
        simp only [Option.some.injEq, Addr.mk.injEq, and_true] at hag'
        obtain ⟨rfl, rfl⟩ := hag'
        have hc0 : w2.cell? ⟨g, o, none⟩ = some (.int .i64 z1) := hc0
        have hc1 : w2.cell? ⟨g, o + 1, none⟩ = some (.int .i64 z2) := hc1
        clear hown
        go_wp2_with fail
        go_quiet (fail)
        go_wp2_with fail
        go_ret3
        exact ⟨by rw [HM.out]; rfl, below_drewN hb2 _⟩
end Go.Proofs.Ythlbplmghjaeoad

/- Counts by the model: mean numbers. -/
namespace Go.Proofs.Ythlbplmghjaeoad
open Go.RowKit

/-- What MeanNumber hands back. -/
def mqB (w h m c : Int) : Bool := szB w h 64 && inB m 0 (w * h) && inB c 0 (w * h - 1)
def mqOK (w h m c : Int) : Bool := mqB w h m c && !decide (m = w * h)
def mqP (w h m c : Int) : Nat × Nat :=
  if mqOK w h m c = true then
    (if w.toNat * h.toNat = 1 then (0, 1) else lowP ((nearM w.toNat (w.toNat * h.toNat) c.toNat).length * m.toNat) (w.toNat * h.toNat - 1))
  else (0, 0)

theorem boNear_len (W H c : Nat) (hW : W ≤ 8) (hH : H ≤ 8) (hc : c < W * H) : (boNearM W H c).length = (nearM W (W * H) c).length := by
  rw [near_eq W H c hW hH hc, List.length_map]

set_option maxRecDepth 100000 in
set_option maxHeartbeats 1600000 in
theorem sMeanNumber_any (w h m c : Int) (ws : World) :
    Calls Try.prog 20 #[.int .i64 w, .int .i64 h, .int .i64 m, .int .i64 c] ws fun e w' => e = .returned (.tuple #[.int .i64 ((mqP w h m c).1 : Nat), .int .i64 ((mqP w h m c).2 : Nat), .bool (mqOK w h m c)]) ∧ Below ws.heap.size ws w' := by
  have h1 := fun wr => ctSize_any w h 64 wr
  rcases sz_case w h 64 with hs | ⟨hs, W, H, rfl, rfl, hW1, hW2, hH1, hH2, hn⟩
  · have hb : mqOK w h m c = false := by rw [mqOK, mqB, hs]; rfl
    rw [hs] at h1
    have HM : Hid (mqP w h m c = (0, 0)) := by rw [Hid, mqP, hb]; rfl
    rw [hb]
    have H1 := Lib.hid h1
    clear hs h1 hb
    go_enter Try.func20, Try.ntmps20
    go_wp2_with fail
    refine (H1.out _).mono ?_
    rintro e w1 ⟨rfl, rfl⟩
    go_wp2_with fail
    go_ret3
    exact ⟨by rw [HM.out]; rfl, Below.refl _ _⟩
  · have hWH : (W : Int) * (H : Int) = ((W * H : Nat) : Int) := (Int.natCast_mul W H).symm
    have hb : mqOK W H m c = (inB m 0 ((W * H : Nat) : Int) && inB c 0 (((W * H : Nat) : Int) - 1) && !decide (m = ((W * H : Nat) : Int))) := by rw [mqOK, mqB, hs, hWH, Bool.true_and]
    rw [hs] at h1
    have h2 := fun wr => l1In_any m 0 ((W * H : Nat) : Int) wr
    have h3 := fun wr => l1In_any c 0 (((W * H : Nat) : Int) - 1) wr
    have hp1 : 1 ≤ W * H := Nat.mul_pos hW1 hH1
    have hM : mqP W H m c = if mqOK W H m c = true then (if W * H = 1 then (0, 1) else lowP ((nearM W (W * H) c.toNat).length * m.toNat) (W * H - 1)) else (0, 0) := rfl
    have HBN := Lib.hid (fun (k : Nat) (hk : k < W * H) wr => boNear_any W H k wr ⟨hW1, hW2⟩ hH2 (by omega))
    have HBL := Lib.hid (fun (k : Nat) (hk : k < W * H) => boNear_len W H k hW2 hH2 hk)
    have HB9 := Lib.hid (fun k => boNearM_le W H k)
    generalize W * H = n at *
    have H1 := Lib.hid h1
    clear h1 hs
    cases e1 : inB m 0 (n : Int) with
    | false =>
      rw [e1] at h2 hb
      have H2 := Lib.hid h2
      have HB := Lib.hid hb
      rw [hb] at hM
      have HM := Lib.hid hM
      clear h2 hM e1 hb h3
      go_enter Try.func20, Try.ntmps20
      go_wp2_with fail
      refine (H1.out _).mono ?_
      rintro e w1 ⟨rfl, rfl⟩
      go_wp2_with fail
      refine (H2.out _).mono ?_
      rintro e w1 ⟨rfl, rfl⟩
      go_wp2_with fail
      go_ret3
      exact ⟨by rw [HM.out, HB.out]; rfl, Below.refl _ _⟩
    | true =>
      rw [e1] at h2 hb
      obtain ⟨m1, m2⟩ := inB_iff.1 e1
      have H2 := Lib.hid h2
      clear h2 e1
      cases e2 : inB c 0 ((n : Int) - 1) with
      | false =>
        rw [e2] at h3 hb
        have H3 := Lib.hid h3
        have HB := Lib.hid hb
        rw [hb] at hM
        have HM := Lib.hid hM
        clear h3 hM e2 hb
        go_enter Try.func20, Try.ntmps20
        go_wp2_with fail
        refine (H1.out _).mono ?_
        rintro e w1 ⟨rfl, rfl⟩
        go_wp2_with fail
        refine (H2.out _).mono ?_
        rintro e w1 ⟨rfl, rfl⟩
        go_wp2_with fail
        refine (H3.out _).mono ?_
        rintro e w1 ⟨rfl, rfl⟩
        go_wp2_with fail
        go_ret3
        exact ⟨by rw [HM.out, HB.out]; rfl, Below.refl _ _⟩
      | true =>
        rw [e2] at h3 hb
        obtain ⟨k1, k2⟩ := inB_iff.1 e2
        obtain ⟨k, rfl⟩ : ∃ k : Nat, c = k := ⟨c.toNat, by omega⟩
        obtain ⟨mm, rfl⟩ : ∃ mm : Nat, m = mm := ⟨m.toNat, by omega⟩
        have H3 := Lib.hid h3
        have hkn : k < n := by omega
        have hn64 : n ≤ 64 := by omega
        clear h3 e2
        by_cases hmn : (mm : Int) = (n : Int)
        · have hd : ((mm : Int) == (n : Int)) = true := by simpa using hmn
          rw [decide_eq_true hmn] at hb
          have HB := Lib.hid hb
          rw [hb] at hM
          have HM := Lib.hid hM
          clear hM hb hmn
          go_enter Try.func20, Try.ntmps20
          go_wp2_with fail
          refine (H1.out _).mono ?_
          rintro e w1 ⟨rfl, rfl⟩
          go_wp2_with fail
          refine (H2.out _).mono ?_
          rintro e w1 ⟨rfl, rfl⟩
          go_wp2_with fail
          refine (H3.out _).mono ?_
          rintro e w1 ⟨rfl, rfl⟩
          go_wp2_with fail
          go_ret3
          exact ⟨by rw [HM.out, HB.out]; rfl, Below.refl _ _⟩
        · have hd : ((mm : Int) == (n : Int)) = false := by simpa using hmn
          rw [decide_eq_false hmn] at hb
          have HB := Lib.hid hb
          rw [hb] at hM
          have hM := hM.trans (if_pos rfl)
          clear hb hmn
          by_cases hn1 : n = 1
          · have HM := Lib.hid (hM.trans (if_pos hn1))
            subst hn1
            clear hM
            go_enter Try.func20, Try.ntmps20
            go_wp2_with fail
            refine (H1.out _).mono ?_
            rintro e w1 ⟨rfl, rfl⟩
            go_wp2_with fail
            refine (H2.out _).mono ?_
            rintro e w1 ⟨rfl, rfl⟩
            go_wp2_with fail
            refine (H3.out _).mono ?_
            rintro e w1 ⟨rfl, rfl⟩
            go_wp2_with fail
            go_ret3
            exact ⟨by rw [HM.out, HB.out]; rfl, Below.refl _ _⟩
          · have hM := hM.trans (if_neg hn1)
            have hd2 : ((n : Int) == 1) = false := by simp; omega
            have hbl := HBL.out k hkn
            have hb9 := HB9.out k
            have HNk := Lib.hid (fun wr => HBN.out k hkn wr)
            rw [show (k : Int).toNat = k from rfl, show (mm : Int).toNat = mm from rfl, ← hbl] at hM
            generalize boNearM W H k = N at *
            have c1 : N.length * mm ≤ 9 * 64 := Nat.mul_le_mul hb9 (by omega)
            have e1 : (N.length : Int) * mm = ((N.length * mm : Nat) : Int) := by simp
            have e3 : (n : Int) - 1 = ((n - 1 : Nat) : Int) := by omega
            have b1 : 0 ≤ (N.length : Int) * mm := by omega
            have b2 : (N.length : Int) * mm ≤ 9 * 64 := by omega
            have hv := fun wr => viLow_any (N.length * mm) (n - 1) (by omega) (by omega) (by omega) wr
            have hL : mqP W H mm k = (N.length * mm / Nat.gcd (N.length * mm) (n - 1), (n - 1) / Nat.gcd (N.length * mm) (n - 1)) := by rw [hM]; rfl
            rw [← e1, ← e3] at hv
            generalize N.length * mm / Nat.gcd (N.length * mm) (n - 1) = z1 at *
            generalize (n - 1) / Nat.gcd (N.length * mm) (n - 1) = z2 at *
            have HM := Lib.hid hL
            have HV := Lib.hid hv
            clear hM hL hv hn1 e1 e3 c1 hbl
            go_enter Try.func20, Try.ntmps20
            go_wp2_with fail
            refine (H1.out _).mono ?_
            rintro e w1 ⟨rfl, rfl⟩
            go_wp2_with fail
            refine (H2.out _).mono ?_
            rintro e w1 ⟨rfl, rfl⟩
            go_wp2_with fail
            refine (H3.out _).mono ?_
            rintro e w1 ⟨rfl, rfl⟩
            go_wp2_with fail
            refine (HNk.out _).mono ?_
            rintro e w1 ⟨a1, c1, rfl, _, hb1⟩
            go_wp2_with fail
            refine (HV.out _).mono ?_
            rintro e w2 ⟨a, cap, rfl, hown, hb2⟩
            have hb02 := hb1.trans (hb2.mono hb1.size)
            obtain ⟨g, o, hag, hc0⟩ := hown.at 0 (by simp)
            obtain ⟨g', o', hag', hc1⟩ := hown.at 1 (by simp)
            subst hag
            simp only [Option.some.injEq, Addr.mk.injEq, and_true] at hag'
            obtain ⟨rfl, rfl⟩ := hag'
            have hc0 : w2.cell? ⟨g, o, none⟩ = some (.int .i64 z1) := hc0
            have hc1 : w2.cell? ⟨g, o + 1, none⟩ = some (.int .i64 z2) := hc1
            clear hown hb1 hb2
            go_wp2_with fail
            go_quiet (fail)
            go_wp2_with fail
            go_ret3
            exact ⟨by rw [HM.out, HB.out]; rfl, below_drewN hb02 _⟩
end Go.Proofs.Ythlbplmghjaeoad

/- Counts by the model: boards by a number of a cell. -/
namespace Go.Proofs.Ythlbplmghjaeoad
open Go.RowKit

end Go.Proofs.Ythlbplmghjaeoad
