/- Counts by the model: mean sums. -/
import Derived.Test.YthlbplmghjaeoadJC
import Derived.Outline
namespace Go.Proofs.Ythlbplmghjaeoad
open Go.RowKit

theorem prsM_range (W H : Nat) (hW : 1 ≤ W ∧ W ≤ 8) (hH : 1 ≤ H ∧ H ≤ 8) : 0 ≤ prsM W H ∧ prsM W H ≤ 256 := by
  obtain ⟨a1, a2⟩ := mulB (a := (W : Int)) (b := (H : Int) - 1) ⟨by omega, by omega⟩ ⟨by omega, by omega⟩
  obtain ⟨b1, b2⟩ := mulB (a := (H : Int)) (b := (W : Int) - 1) ⟨by omega, by omega⟩ ⟨by omega, by omega⟩
  obtain ⟨c1, c2⟩ := mulB (a := (W : Int) - 1) (b := (H : Int) - 1) ⟨by omega, by omega⟩ ⟨by omega, by omega⟩
  have d : 2 * ((W : Int) - 1) * ((H : Int) - 1) = 2 * (((W : Int) - 1) * ((H : Int) - 1)) := by rw [Int.mul_assoc]
  unfold prsM
  omega
/-- A fraction in lowest terms. -/
def lowP (num den : Nat) : Nat × Nat := (num / Nat.gcd num den, den / Nat.gcd num den)
/-- What MeanSum hands back. -/
def msB (w h m : Int) : Bool := szB w h 64 && inB m 0 (w * h)
def msP (w h m : Int) : Nat × Nat :=
  if msB w h m = true then
    (if w.toNat * h.toNat = 1 then (0, 1) else lowP (2 * (prsM w h).toNat * m.toNat * (w.toNat * h.toNat - m.toNat)) (w.toNat * h.toNat * (w.toNat * h.toNat - 1)))
  else (0, 0)

set_option maxRecDepth 100000 in
set_option maxHeartbeats 1600000 in
theorem sMeanSum_any (w h m : Int) (ws : World) :
    Calls Try.prog 18 #[.int .i64 w, .int .i64 h, .int .i64 m] ws fun e w' => e = .returned (.tuple #[.int .i64 ((msP w h m).1 : Nat), .int .i64 ((msP w h m).2 : Nat), .bool (msB w h m)]) ∧ Below ws.heap.size ws w' := by
  have h1 := fun wr => ctSize_any w h 64 wr
  rcases sz_case w h 64 with hs | ⟨hs, W, H, rfl, rfl, hW1, hW2, hH1, hH2, hn⟩
  · have hb : msB w h m = false := by rw [msB, hs]; rfl
    rw [hs] at h1
    have HM : Hid (msP w h m = (0, 0)) := by rw [Hid, msP, hb]; rfl
    rw [hb]
    have H1 := Lib.hid h1
    clear hs h1 hb
    go_enter Try.func18, Try.ntmps18
    go_wp2_with fail
    refine (H1.out _).mono ?_
    rintro e w1 ⟨rfl, rfl⟩
    go_wp2_with fail
    go_ret3
    exact ⟨by rw [HM.out]; rfl, Below.refl _ _⟩
  · have hb : msB W H m = inB m 0 ((W : Int) * H) := by rw [msB, hs, Bool.true_and]
    rw [hs] at h1
    have hWH : (W : Int) * (H : Int) = ((W * H : Nat) : Int) := (Int.natCast_mul W H).symm
    have h2 := fun wr => l1In_any m 0 ((W : Int) * H) wr
    rw [← hb] at h2
    have hp1 : 1 ≤ W * H := Nat.mul_pos hW1 hH1
    obtain ⟨p1, p2⟩ := prsM_range W H ⟨hW1, hW2⟩ ⟨hH1, hH2⟩
    have HPR := Lib.hid (fun wr => ctPairs_any W H ⟨by omega, by omega⟩ ⟨by omega, by omega⟩ wr)
    have hM : msP W H m = if msB W H m = true then (if W * H = 1 then (0, 1) else lowP (2 * (prsM W H).toNat * m.toNat * (W * H - m.toNat)) (W * H * (W * H - 1))) else (0, 0) := rfl
    obtain ⟨q, hq⟩ : ∃ q : Nat, prsM W H = q := ⟨(prsM W H).toNat, by omega⟩
    rw [hq] at p1 p2 hM HPR
    rw [hWH] at hb h2
    generalize W * H = n at *
    have H1 := Lib.hid h1
    clear h1 hs
    cases e1 : msB W H m with
    | false =>
      rw [e1] at h2 hM
      have H2 := Lib.hid h2
      have HM := Lib.hid hM
      clear h2 hM e1 hb hq
      go_enter Try.func18, Try.ntmps18
      go_wp2_with fail
      refine (H1.out _).mono ?_
      rintro e w1 ⟨rfl, rfl⟩
      go_wp2_with fail
      refine (H2.out _).mono ?_
      rintro e w1 ⟨rfl, rfl⟩
      go_wp2_with fail
      go_ret3
      exact ⟨by rw [HM.out]; rfl, Below.refl _ _⟩
    | true =>
      rw [e1] at h2 hM hb
      obtain ⟨m1, m2⟩ := inB_iff.1 hb.symm
      obtain ⟨mm, rfl⟩ : ∃ mm : Nat, m = mm := ⟨m.toNat, by omega⟩
      have H2 := Lib.hid h2
      have hM := hM.trans (if_pos rfl)
      clear h2 hb hq e1
      have hn64 : n ≤ 64 := by omega
      by_cases hn1 : n = 1
      · have HM := Lib.hid (hM.trans (if_pos hn1))
        subst hn1
        clear hM
        go_enter Try.func18, Try.ntmps18
        go_wp2_with fail
        refine (H1.out _).mono ?_
        rintro e w1 ⟨rfl, rfl⟩
        go_wp2_with fail
        refine (H2.out _).mono ?_
        rintro e w1 ⟨rfl, rfl⟩
        go_wp2_with fail
        go_ret3
        exact ⟨by rw [HM.out]; rfl, Below.refl _ _⟩
      · have hM := hM.trans (if_neg hn1)
        have hd : ((n : Int) == 1) = false := by simp; omega
        have hmn : mm ≤ n := by omega
        have c1 : 2 * q * mm ≤ 512 * 64 := Nat.mul_le_mul (by omega) (by omega)
        have c2 : 2 * q * mm * (n - mm) ≤ 512 * 64 * 64 := Nat.mul_le_mul c1 (by omega)
        have c3 : n * (n - 1) ≤ 64 * 64 := Nat.mul_le_mul (by omega) (by omega)
        have c4 : 0 < n * (n - 1) := Nat.mul_pos (by omega) (by omega)
        have e1 : (2 : Int) * q * mm = ((2 * q * mm : Nat) : Int) := by simp
        have e2 : (2 : Int) * q * mm * (n - mm) = ((2 * q * mm * (n - mm) : Nat) : Int) := by rw [e1, ← Int.natCast_sub hmn, ← Int.natCast_mul]
        have e3 : (n : Int) * (n - 1) = ((n * (n - 1) : Nat) : Int) := by rw [show (n : Int) - 1 = ((n - 1 : Nat) : Int) by omega, ← Int.natCast_mul]
        have b1 : 0 ≤ (2 : Int) * q * mm := by omega
        have b2 : (2 : Int) * q * mm ≤ 512 * 64 := by omega
        have b3 : 0 ≤ (2 : Int) * q * mm * (n - mm) := by omega
        have b4 : (2 : Int) * q * mm * (n - mm) ≤ 512 * 64 * 64 := by omega
        have b5 : 0 ≤ (n : Int) * (n - 1) := by omega
        have b6 : (n : Int) * (n - 1) ≤ 64 * 64 := by omega
        have hv := fun wr => viLow_any (2 * q * mm * (n - mm)) (n * (n - 1)) c4 (by omega) (by omega) wr
        have hL : msP W H mm = (2 * q * mm * (n - mm) / Nat.gcd (2 * q * mm * (n - mm)) (n * (n - 1)), n * (n - 1) / Nat.gcd (2 * q * mm * (n - mm)) (n * (n - 1))) := by rw [hM]; rfl
        rw [← e2, ← e3] at hv
        generalize 2 * q * mm * (n - mm) / Nat.gcd (2 * q * mm * (n - mm)) (n * (n - 1)) = z1 at *
        generalize n * (n - 1) / Nat.gcd (2 * q * mm * (n - mm)) (n * (n - 1)) = z2 at *
        have HM := Lib.hid hL
        have HV := Lib.hid hv
        clear hM hL hv hn1 e1 e2 e3 c1 c2 c3 c4
        go_enter Try.func18, Try.ntmps18
        go_wp2_with fail
        refine (H1.out _).mono ?_
        rintro e w1 ⟨rfl, rfl⟩
        go_wp2_with fail
        refine (H2.out _).mono ?_
        rintro e w1 ⟨rfl, rfl⟩
        go_wp2_with fail
        refine (HPR.out _).mono ?_
        rintro e w1 ⟨rfl, rfl⟩
        go_wp2_with fail
        refine (HV.out _).mono ?_
        rintro e w2 ⟨a, cap, rfl, hown, hb2⟩
        obtain ⟨g, o, hag, hc0⟩ := hown.at 0 (by simp)
        obtain ⟨g', o', hag', hc1⟩ := hown.at 1 (by simp)
        subst hag
        simp only [Option.some.injEq, Addr.mk.injEq, and_true] at hag'
        obtain ⟨rfl, rfl⟩ := hag'
        have hc0 : w2.cell? ⟨g, o, none⟩ = some (.int .i64 z1) := hc0
        have hc1 : w2.cell? ⟨g, o + 1, none⟩ = some (.int .i64 z2) := hc1
        clear hown
        go_wp2_with fail
        go_quiet (fail)
        go_wp2_with fail
        go_ret3
        exact ⟨by rw [HM.out]; rfl, below_drewN hb2 _⟩
end Go.Proofs.Ythlbplmghjaeoad
