/- JC, JD, JE, JF, laid as one text. -/
import Derived.Test.YthlbplmghjaeoaeGJ9
import Derived.Test.YthlbplmghjaeoaeE
import Derived.Deep.QuietTactic
import Derived.BigQuiet
import Derived.StillTailTactics
import Derived.Deep.RegionHeld3
import Derived.IntWalk
import Derived.Outline

/- Counts by the model: fractions in lowest terms. -/
namespace Go.Proofs.Ythlbplmghjaeoae
open Go.RowKit

theorem gcd_round (a b : Nat) : Nat.gcd b (a % b) = Nat.gcd a b := by
  rw [Nat.gcd_comm b, ← Nat.gcd_rec, Nat.gcd_comm]

theorem Owns.two (w : World) (B e : Nat) (x y : Value) (hB : B ≤ w.heap.size) : Owns (w.alloc (.cells #[x, y] e)) B e (.slice (some ⟨w.heap.size, 0, none⟩) 2 2) [x, y] := by
  refine ⟨by simp, .inr ⟨w.heap.size, 2, #[x, y], by simp, hB, heap_alloc_new w _, by simp, by simp [maxLen], by simp, by simp⟩⟩
theorem toDrewJ {B : Nat} {w w' : World} (h : Below B w w') : Below B w w'.drew := ⟨h.os, h.tape, h.output, h.size, h.block⟩

end Go.Proofs.Ythlbplmghjaeoae

/- Counts by the model: mean sums. -/
namespace Go.Proofs.Ythlbplmghjaeoae
open Go.RowKit

theorem prsM_range (W H : Nat) (hW : 1 ≤ W ∧ W ≤ 8) (hH : 1 ≤ H ∧ H ≤ 8) : 0 ≤ prsM W H ∧ prsM W H ≤ 256 := by
  obtain ⟨a1, a2⟩ := mulB (a := (W : Int)) (b := (H : Int) - 1) ⟨by omega, by omega⟩ ⟨by omega, by omega⟩
  obtain ⟨b1, b2⟩ := mulB (a := (H : Int)) (b := (W : Int) - 1) ⟨by omega, by omega⟩ ⟨by omega, by omega⟩
  obtain ⟨c1, c2⟩ := mulB (a := (W : Int) - 1) (b := (H : Int) - 1) ⟨by omega, by omega⟩ ⟨by omega, by omega⟩
  have d : 2 * ((W : Int) - 1) * ((H : Int) - 1) = 2 * (((W : Int) - 1) * ((H : Int) - 1)) := by rw [Int.mul_assoc]
  unfold prsM
  omega
/-- A fraction in lowest terms. -/
def lowP (num den : Nat) : Nat × Nat := (num / Nat.gcd num den, den / Nat.gcd num den)
/-- What MeanSum hands back. -/
def msB (w h m : Int) : Bool := szB w h 64 && inB m 0 (w * h)
def msP (w h m : Int) : Nat × Nat :=
  if msB w h m = true then
    (if w.toNat * h.toNat = 1 then (0, 1) else lowP (2 * (prsM w h).toNat * m.toNat * (w.toNat * h.toNat - m.toNat)) (w.toNat * h.toNat * (w.toNat * h.toNat - 1)))
  else (0, 0)

end Go.Proofs.Ythlbplmghjaeoae

/- Counts by the model: mean numbers. -/
namespace Go.Proofs.Ythlbplmghjaeoae
open Go.RowKit

/-- What MeanNumber hands back. -/
def mqB (w h m c : Int) : Bool := szB w h 64 && inB m 0 (w * h) && inB c 0 (w * h - 1)
def mqOK (w h m c : Int) : Bool := mqB w h m c && !decide (m = w * h)
def mqP (w h m c : Int) : Nat × Nat :=
  if mqOK w h m c = true then
    (if w.toNat * h.toNat = 1 then (0, 1) else lowP ((nearM w.toNat (w.toNat * h.toNat) c.toNat).length * m.toNat) (w.toNat * h.toNat - 1))
  else (0, 0)

theorem boNear_len (W H c : Nat) (hW : W ≤ 8) (hH : H ≤ 8) (hc : c < W * H) : (boNearM W H c).length = (nearM W (W * H) c).length := by
  rw [near_eq W H c hW hH hc, List.length_map]

end Go.Proofs.Ythlbplmghjaeoae

/- Counts by the model: boards by a number of a cell. -/
namespace Go.Proofs.Ythlbplmghjaeoae
open Go.RowKit

set_option maxRecDepth 100000 in
set_option maxHeartbeats 1600000 in
theorem sCountWithNumber_any (w h m c d : Int) (ws : World) :
    Calls Try.prog 14 #[.int .i64 w, .int .i64 h, .int .i64 m, .int .i64 c, .int .i64 d] ws fun e w' => e = .returned (.tuple #[.int .i64 (cnM w h m c d), .bool (cnB w h m c d)]) ∧ Below ws.heap.size ws w' := by
  have h1 := fun wr => ctSize_any w h 12 wr
  rcases sz_case w h 12 with hs | ⟨hs, W, H, rfl, rfl, hW1, hW2, hH1, hH2, hn⟩
  · have hb : cnB w h m c d = false := by rw [cnB, hs]; rfl
    rw [hs] at h1
    have HM : Hid (cnM w h m c d = 0) := by rw [Hid, cnM, hb]; rfl
    rw [hb]
    have H1 := Lib.hid h1
    clear hs h1 hb
    go_enter Try.func14, Try.ntmps14
    go_wp2_with fail
    refine (H1.out _).mono ?_
    rintro e w1 ⟨rfl, rfl⟩
    go_wp2_with fail
    go_ret2
    exact ⟨by rw [HM.out]; rfl, Below.refl _ _⟩
  · have hWH : (W : Int) * (H : Int) = ((W * H : Nat) : Int) := (Int.natCast_mul W H).symm
    have hb : cnB W H m c d = (inB m 0 ((W * H : Nat) : Int) && inB c 0 (((W * H : Nat) : Int) - 1) && inB d 0 8) := by rw [cnB, hs, hWH, Bool.true_and]
    rw [hs] at h1
    have h2 := fun wr => l1In_any m 0 ((W * H : Nat) : Int) wr
    have h3 := fun wr => l1In_any c 0 (((W * H : Nat) : Int) - 1) wr
    have h4 := fun wr => l1In_any d 0 8 wr
    have hp1 : 1 ≤ W * H := Nat.mul_pos hW1 hH1
    have hM : cnM W H m c d = if cnB W H m c d = true then chI (nearM W (W * H) c.toNat).length d * chI (W * H - 1 - (nearM W (W * H) c.toNat).length) (m - d) else 0 := rfl
    have hn12 : W * H ≤ 12 := by omega
    have HBN := Lib.hid (fun (k : Nat) (hk : k < W * H) wr => boNear_any W H k wr ⟨hW1, hW2⟩ hH2 (by omega))
    have HBL := Lib.hid (fun (k : Nat) (hk : k < W * H) => boNear_len W H k hW2 hH2 hk)
    have HB9 := Lib.hid (fun k (hk : k < W * H) => near12_all W (by omega) H (by omega) hn12 k hk)
    generalize W * H = n at *
    have H1 := Lib.hid h1
    clear h1 hs
    cases e1 : inB m 0 (n : Int) with
    | false =>
      rw [e1] at h2 hb
      have H2 := Lib.hid h2
      have HB := Lib.hid hb
      rw [hb] at hM
      have HM := Lib.hid hM
      clear h2 hM e1 hb h3 h4
      go_enter Try.func14, Try.ntmps14
      go_wp2_with fail
      refine (H1.out _).mono ?_
      rintro e w1 ⟨rfl, rfl⟩
      go_wp2_with fail
      refine (H2.out _).mono ?_
      rintro e w1 ⟨rfl, rfl⟩
      go_wp2_with fail
      go_ret2
      exact ⟨by rw [HM.out, HB.out]; rfl, Below.refl _ _⟩
    | true =>
      rw [e1] at h2 hb
      obtain ⟨m1, m2⟩ := inB_iff.1 e1
      have H2 := Lib.hid h2
      clear h2 e1
      cases e2 : inB c 0 ((n : Int) - 1) with
      | false =>
        rw [e2] at h3 hb
        have H3 := Lib.hid h3
        have HB := Lib.hid hb
        rw [hb] at hM
        have HM := Lib.hid hM
        clear h3 hM e2 hb h4
        go_enter Try.func14, Try.ntmps14
        go_wp2_with fail
        refine (H1.out _).mono ?_
        rintro e w1 ⟨rfl, rfl⟩
        go_wp2_with fail
        refine (H2.out _).mono ?_
        rintro e w1 ⟨rfl, rfl⟩
        go_wp2_with fail
        refine (H3.out _).mono ?_
        rintro e w1 ⟨rfl, rfl⟩
        go_wp2_with fail
        go_ret2
        exact ⟨by rw [HM.out, HB.out]; rfl, Below.refl _ _⟩
      | true =>
        rw [e2] at h3 hb
        obtain ⟨k1, k2⟩ := inB_iff.1 e2
        obtain ⟨k, rfl⟩ : ∃ k : Nat, c = k := ⟨c.toNat, by omega⟩
        have H3 := Lib.hid h3
        have hkn : k < n := by omega
        clear h3 e2
        cases e3 : inB d 0 8 with
        | false =>
          rw [e3] at h4 hb
          have H4 := Lib.hid h4
          have HB := Lib.hid hb
          rw [hb] at hM
          have HM := Lib.hid hM
          clear h4 hM e3 hb
          go_enter Try.func14, Try.ntmps14
          go_wp2_with fail
          refine (H1.out _).mono ?_
          rintro e w1 ⟨rfl, rfl⟩
          go_wp2_with fail
          refine (H2.out _).mono ?_
          rintro e w1 ⟨rfl, rfl⟩
          go_wp2_with fail
          refine (H3.out _).mono ?_
          rintro e w1 ⟨rfl, rfl⟩
          go_wp2_with fail
          refine (H4.out _).mono ?_
          rintro e w1 ⟨rfl, rfl⟩
          go_wp2_with fail
          go_ret2
          exact ⟨by rw [HM.out, HB.out]; rfl, Below.refl _ _⟩
        | true =>
          rw [e3] at h4 hb
          obtain ⟨d1, d2⟩ := inB_iff.1 e3
          have H4 := Lib.hid h4
          have HB := Lib.hid hb
          rw [hb] at hM
          have hM := hM.trans (if_pos rfl)
          have hbl := HBL.out k hkn
          obtain ⟨hb8, hb9⟩ := HB9.out k hkn
          have HNk := Lib.hid (fun wr => HBN.out k hkn wr)
          rw [show (k : Int).toNat = k from rfl, ← hbl] at hM
          rw [← hbl] at hb8 hb9
          generalize boNearM W H k = N at *
          have hc1 := fun wr => ctChoose_any N.length d (by omega) wr
          have hc2 := fun wr => ctChoose_any (n - 1 - N.length) (m - d) (by omega) wr
          have e5 : (n : Int) - 1 - (N.length : Int) = ((n - 1 - N.length : Nat) : Int) := by omega
          rw [← e5] at hc2
          obtain ⟨x1, x2⟩ := chI_le N.length d (by omega)
          obtain ⟨y1, y2⟩ := chI_le (n - 1 - N.length) (m - d) (by omega)
          generalize chI N.length d = X at *
          generalize chI (n - 1 - N.length) (m - d) = Y at *
          have z1 : 0 ≤ X * Y := Int.mul_nonneg x1 y1
          have z2 : X * Y ≤ 924 * 924 := Int.mul_le_mul x2 y2 y1 (by omega)
          have HC1 := Lib.hid hc1
          have HC2 := Lib.hid hc2
          have HM := Lib.hid hM
          clear hc1 hc2 hM hb e3 h4 hbl e5
          go_enter Try.func14, Try.ntmps14
          go_wp2_with fail
          refine (H1.out _).mono ?_
          rintro e w1 ⟨rfl, rfl⟩
          go_wp2_with fail
          refine (H2.out _).mono ?_
          rintro e w1 ⟨rfl, rfl⟩
          go_wp2_with fail
          refine (H3.out _).mono ?_
          rintro e w1 ⟨rfl, rfl⟩
          go_wp2_with fail
          refine (H4.out _).mono ?_
          rintro e w1 ⟨rfl, rfl⟩
          go_wp2_with fail
          refine (HNk.out _).mono ?_
          rintro e w1 ⟨a1, c1, rfl, _, hb1⟩
          go_wp2_with fail
          refine (HC1.out _).mono ?_
          rintro e w2 ⟨rfl, rfl⟩
          go_wp2_with fail
          refine (HC2.out _).mono ?_
          rintro e w2 ⟨rfl, rfl⟩
          go_wp2_with fail
          go_ret2
          exact ⟨by rw [HM.out, HB.out]; rfl, hb1⟩
end Go.Proofs.Ythlbplmghjaeoae
