/- Counts by the model: mean numbers. -/
import Derived.Test.YthlbplmghjaeoadJD
import Derived.Outline
namespace Go.Proofs.Ythlbplmghjaeoad
open Go.RowKit

/-- What MeanNumber hands back. -/
def mqB (w h m c : Int) : Bool := szB w h 64 && inB m 0 (w * h) && inB c 0 (w * h - 1)
def mqOK (w h m c : Int) : Bool := mqB w h m c && !decide (m = w * h)
def mqP (w h m c : Int) : Nat × Nat :=
  if mqOK w h m c = true then
    (if w.toNat * h.toNat = 1 then (0, 1) else lowP ((nearM w.toNat (w.toNat * h.toNat) c.toNat).length * m.toNat) (w.toNat * h.toNat - 1))
  else (0, 0)

theorem boNear_len (W H c : Nat) (hW : W ≤ 8) (hH : H ≤ 8) (hc : c < W * H) : (boNearM W H c).length = (nearM W (W * H) c).length := by
  rw [near_eq W H c hW hH hc, List.length_map]

set_option maxRecDepth 100000 in
set_option maxHeartbeats 1600000 in
theorem sMeanNumber_any (w h m c : Int) (ws : World) :
    Calls Try.prog 20 #[.int .i64 w, .int .i64 h, .int .i64 m, .int .i64 c] ws fun e w' => e = .returned (.tuple #[.int .i64 ((mqP w h m c).1 : Nat), .int .i64 ((mqP w h m c).2 : Nat), .bool (mqOK w h m c)]) ∧ Below ws.heap.size ws w' := by
  have h1 := fun wr => ctSize_any w h 64 wr
  rcases sz_case w h 64 with hs | ⟨hs, W, H, rfl, rfl, hW1, hW2, hH1, hH2, hn⟩
  · have hb : mqOK w h m c = false := by rw [mqOK, mqB, hs]; rfl
    rw [hs] at h1
    have HM : Hid (mqP w h m c = (0, 0)) := by rw [Hid, mqP, hb]; rfl
    rw [hb]
    have H1 := Lib.hid h1
    clear hs h1 hb
    go_enter Try.func20, Try.ntmps20
    go_wp2_with fail
    refine (H1.out _).mono ?_
    rintro e w1 ⟨rfl, rfl⟩
    go_wp2_with fail
    go_ret3
    exact ⟨by rw [HM.out]; rfl, Below.refl _ _⟩
  · have hWH : (W : Int) * (H : Int) = ((W * H : Nat) : Int) := (Int.natCast_mul W H).symm
    have hb : mqOK W H m c = (inB m 0 ((W * H : Nat) : Int) && inB c 0 (((W * H : Nat) : Int) - 1) && !decide (m = ((W * H : Nat) : Int))) := by rw [mqOK, mqB, hs, hWH, Bool.true_and]
    rw [hs] at h1
    have h2 := fun wr => l1In_any m 0 ((W * H : Nat) : Int) wr
    have h3 := fun wr => l1In_any c 0 (((W * H : Nat) : Int) - 1) wr
    have hp1 : 1 ≤ W * H := Nat.mul_pos hW1 hH1
    have hM : mqP W H m c = if mqOK W H m c = true then (if W * H = 1 then (0, 1) else lowP ((nearM W (W * H) c.toNat).length * m.toNat) (W * H - 1)) else (0, 0) := rfl
    have HBN := Lib.hid (fun (k : Nat) (hk : k < W * H) wr => boNear_any W H k wr ⟨hW1, hW2⟩ hH2 (by omega))
    have HBL := Lib.hid (fun (k : Nat) (hk : k < W * H) => boNear_len W H k hW2 hH2 hk)
    have HB9 := Lib.hid (fun k => boNearM_le W H k)
    generalize W * H = n at *
    have H1 := Lib.hid h1
    clear h1 hs
    cases e1 : inB m 0 (n : Int) with
    | false =>
      rw [e1] at h2 hb
      have H2 := Lib.hid h2
      have HB := Lib.hid hb
      rw [hb] at hM
      have HM := Lib.hid hM
      clear h2 hM e1 hb h3
      go_enter Try.func20, Try.ntmps20
      go_wp2_with fail
      refine (H1.out _).mono ?_
      rintro e w1 ⟨rfl, rfl⟩
      go_wp2_with fail
      refine (H2.out _).mono ?_
      rintro e w1 ⟨rfl, rfl⟩
      go_wp2_with fail
      go_ret3
      exact ⟨by rw [HM.out, HB.out]; rfl, Below.refl _ _⟩
    | true =>
      rw [e1] at h2 hb
      obtain ⟨m1, m2⟩ := inB_iff.1 e1
      have H2 := Lib.hid h2
      clear h2 e1
      cases e2 : inB c 0 ((n : Int) - 1) with
      | false =>
        rw [e2] at h3 hb
        have H3 := Lib.hid h3
        have HB := Lib.hid hb
        rw [hb] at hM
        have HM := Lib.hid hM
        clear h3 hM e2 hb
        go_enter Try.func20, Try.ntmps20
        go_wp2_with fail
        refine (H1.out _).mono ?_
        rintro e w1 ⟨rfl, rfl⟩
        go_wp2_with fail
        refine (H2.out _).mono ?_
        rintro e w1 ⟨rfl, rfl⟩
        go_wp2_with fail
        refine (H3.out _).mono ?_
        rintro e w1 ⟨rfl, rfl⟩
        go_wp2_with fail
        go_ret3
        exact ⟨by rw [HM.out, HB.out]; rfl, Below.refl _ _⟩
      | true =>
        rw [e2] at h3 hb
        obtain ⟨k1, k2⟩ := inB_iff.1 e2
        obtain ⟨k, rfl⟩ : ∃ k : Nat, c = k := ⟨c.toNat, by omega⟩
        obtain ⟨mm, rfl⟩ : ∃ mm : Nat, m = mm := ⟨m.toNat, by omega⟩
        have H3 := Lib.hid h3
        have hkn : k < n := by omega
        have hn64 : n ≤ 64 := by omega
        clear h3 e2
        by_cases hmn : (mm : Int) = (n : Int)
        · have hd : ((mm : Int) == (n : Int)) = true := by simpa using hmn
          rw [decide_eq_true hmn] at hb
          have HB := Lib.hid hb
          rw [hb] at hM
          have HM := Lib.hid hM
          clear hM hb hmn
          go_enter Try.func20, Try.ntmps20
          go_wp2_with fail
          refine (H1.out _).mono ?_
          rintro e w1 ⟨rfl, rfl⟩
          go_wp2_with fail
          refine (H2.out _).mono ?_
          rintro e w1 ⟨rfl, rfl⟩
          go_wp2_with fail
          refine (H3.out _).mono ?_
          rintro e w1 ⟨rfl, rfl⟩
          go_wp2_with fail
          go_ret3
          exact ⟨by rw [HM.out, HB.out]; rfl, Below.refl _ _⟩
        · have hd : ((mm : Int) == (n : Int)) = false := by simpa using hmn
          rw [decide_eq_false hmn] at hb
          have HB := Lib.hid hb
          rw [hb] at hM
          have hM := hM.trans (if_pos rfl)
          clear hb hmn
          by_cases hn1 : n = 1
          · have HM := Lib.hid (hM.trans (if_pos hn1))
            subst hn1
            clear hM
            go_enter Try.func20, Try.ntmps20
            go_wp2_with fail
            refine (H1.out _).mono ?_
            rintro e w1 ⟨rfl, rfl⟩
            go_wp2_with fail
            refine (H2.out _).mono ?_
            rintro e w1 ⟨rfl, rfl⟩
            go_wp2_with fail
            refine (H3.out _).mono ?_
            rintro e w1 ⟨rfl, rfl⟩
            go_wp2_with fail
            go_ret3
            exact ⟨by rw [HM.out, HB.out]; rfl, Below.refl _ _⟩
          · have hM := hM.trans (if_neg hn1)
            have hd2 : ((n : Int) == 1) = false := by simp; omega
            have hbl := HBL.out k hkn
            have hb9 := HB9.out k
            have HNk := Lib.hid (fun wr => HBN.out k hkn wr)
            rw [show (k : Int).toNat = k from rfl, show (mm : Int).toNat = mm from rfl, ← hbl] at hM
            generalize boNearM W H k = N at *
            have c1 : N.length * mm ≤ 9 * 64 := Nat.mul_le_mul hb9 (by omega)
            have e1 : (N.length : Int) * mm = ((N.length * mm : Nat) : Int) := by simp
            have e3 : (n : Int) - 1 = ((n - 1 : Nat) : Int) := by omega
            have b1 : 0 ≤ (N.length : Int) * mm := by omega
            have b2 : (N.length : Int) * mm ≤ 9 * 64 := by omega
            have hv := fun wr => viLow_any (N.length * mm) (n - 1) (by omega) (by omega) (by omega) wr
            have hL : mqP W H mm k = (N.length * mm / Nat.gcd (N.length * mm) (n - 1), (n - 1) / Nat.gcd (N.length * mm) (n - 1)) := by rw [hM]; rfl
            rw [← e1, ← e3] at hv
            generalize N.length * mm / Nat.gcd (N.length * mm) (n - 1) = z1 at *
            generalize (n - 1) / Nat.gcd (N.length * mm) (n - 1) = z2 at *
            have HM := Lib.hid hL
            have HV := Lib.hid hv
            clear hM hL hv hn1 e1 e3 c1 hbl
            go_enter Try.func20, Try.ntmps20
            go_wp2_with fail
            refine (H1.out _).mono ?_
            rintro e w1 ⟨rfl, rfl⟩
            go_wp2_with fail
            refine (H2.out _).mono ?_
            rintro e w1 ⟨rfl, rfl⟩
            go_wp2_with fail
            refine (H3.out _).mono ?_
            rintro e w1 ⟨rfl, rfl⟩
            go_wp2_with fail
            refine (HNk.out _).mono ?_
            rintro e w1 ⟨a1, c1, rfl, _, hb1⟩
            go_wp2_with fail
            refine (HV.out _).mono ?_
            rintro e w2 ⟨a, cap, rfl, hown, hb2⟩
            have hb02 := hb1.trans (hb2.mono hb1.size)
            obtain ⟨g, o, hag, hc0⟩ := hown.at 0 (by simp)
            obtain ⟨g', o', hag', hc1⟩ := hown.at 1 (by simp)
            subst hag
            simp only [Option.some.injEq, Addr.mk.injEq, and_true] at hag'
            obtain ⟨rfl, rfl⟩ := hag'
            have hc0 : w2.cell? ⟨g, o, none⟩ = some (.int .i64 z1) := hc0
            have hc1 : w2.cell? ⟨g, o + 1, none⟩ = some (.int .i64 z2) := hc1
            clear hown hb1 hb2
            go_wp2_with fail
            go_quiet (fail)
            go_wp2_with fail
            go_ret3
            exact ⟨by rw [HM.out, HB.out]; rfl, below_drewN hb02 _⟩
end Go.Proofs.Ythlbplmghjaeoad
