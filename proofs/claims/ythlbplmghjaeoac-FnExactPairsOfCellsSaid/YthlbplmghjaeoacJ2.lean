/- Counts by the model: pairs of cells, boards by mines, by a number of a cell, mines apart. -/
import Derived.Test.YthlbplmghjaeoacJ1
import Derived.Test.YthlbplmghjaeoacN0
import Derived.Outline
namespace Go.Proofs.Ythlbplmghjaeoac
open Go.RowKit

/-- What PairsOfCells hands back. -/
def pcM (w h : Int) : Int := if szB w h 64 = true then prsM w h else 0
/-- What CountBoards hands back. -/
def cbB (w h m : Int) : Bool := szB w h 12 && inB m 0 (w * h)
def cbM (w h m : Int) : Int := if cbB w h m = true then chI (w.toNat * h.toNat) m else 0
/-- What MostApart hands back. -/
def maM (w h : Int) : Int := if szB w h 12 = true then (w + 1) / 2 * ((h + 1) / 2) else 0
/-- What CountWithNumber hands back. -/
def cnB (w h m c d : Int) : Bool := szB w h 12 && inB m 0 (w * h) && inB c 0 (w * h - 1) && inB d 0 8
def cnM (w h m c d : Int) : Int := if cnB w h m c d = true then chI (nearM w.toNat (w.toNat * h.toNat) c.toNat).length d * chI (w.toNat * h.toNat - 1 - (nearM w.toNat (w.toNat * h.toNat) c.toNat).length) (m - d) else 0

theorem chI_all : ∀ n < 13, ∀ k < 13, binom n k ≤ 924 := by decide +kernel
theorem chI_le (n : Nat) (k : Int) (hn : n ≤ 12) : 0 ≤ chI n k ∧ chI n k ≤ 924 := by
  unfold chI
  split
  · by_cases hk : k.toNat < 13
    · have := chI_all n (by omega) k.toNat hk
      omega
    · rw [binom_over n k.toNat (by omega)]
      omega
  · omega
theorem near12_all : ∀ W : Nat, W < 9 → ∀ H : Nat, H < 9 → W * H ≤ 12 → ∀ c, c < W * H → (nearM W (W * H) c).length + 1 ≤ W * H ∧ (nearM W (W * H) c).length ≤ 8 := by decide +kernel

set_option maxRecDepth 100000 in
theorem sPairsOfCells_any (w h : Int) (wr : World) :
    Calls Try.prog 5 #[.int .i64 w, .int .i64 h] wr fun e w' => e = .returned (.tuple #[.int .i64 (pcM w h), .bool (szB w h 64)]) ∧ Below wr.heap.size wr w' := by
  have h1 := fun wr => ctSize_any w h 64 wr
  rcases sz_case w h 64 with hs | ⟨hs, W, H, rfl, rfl, hW1, hW2, hH1, hH2, hn⟩
  · rw [hs] at h1
    have HM : Hid (pcM w h = 0) := by rw [Hid, pcM, hs]; rfl
    rw [hs]
    have H1 := Lib.hid h1
    clear hs h1
    go_enter Try.func5, Try.ntmps5
    go_wp2_with fail
    refine (H1.out _).mono ?_
    rintro e w1 ⟨rfl, rfl⟩
    go_wp2_with fail
    go_ret2
    exact ⟨by rw [HM.out]; rfl, Below.refl _ _⟩
  · rw [hs] at h1
    have HM : Hid (pcM W H = prsM W H) := by rw [Hid, pcM, if_pos hs]
    rw [hs]
    have H1 := Lib.hid h1
    have H2 := Lib.hid (fun wr => ctPairs_any W H ⟨by omega, by omega⟩ ⟨by omega, by omega⟩ wr)
    clear hs h1
    go_enter Try.func5, Try.ntmps5
    go_wp2_with fail
    refine (H1.out _).mono ?_
    rintro e w1 ⟨rfl, rfl⟩
    go_wp2_with fail
    refine (H2.out _).mono ?_
    rintro e w1 ⟨rfl, rfl⟩
    go_wp2_with fail
    go_ret2
    exact ⟨by rw [HM.out]; rfl, Below.refl _ _⟩


set_option maxRecDepth 100000 in
theorem sCountBoards_any (w h m : Int) (wr : World) :
    Calls Try.prog 7 #[.int .i64 w, .int .i64 h, .int .i64 m] wr fun e w' => e = .returned (.tuple #[.int .i64 (cbM w h m), .bool (cbB w h m)]) ∧ Below wr.heap.size wr w' := by
  have h1 := fun wr => ctSize_any w h 12 wr
  rcases sz_case w h 12 with hs | ⟨hs, W, H, rfl, rfl, hW1, hW2, hH1, hH2, hn⟩
  · have hb : cbB w h m = false := by rw [cbB, hs]; rfl
    rw [hs] at h1
    have HM : Hid (cbM w h m = 0) := by rw [Hid, cbM, hb]; rfl
    rw [hb]
    have H1 := Lib.hid h1
    clear hs h1 hb
    go_enter Try.func7, Try.ntmps7
    go_wp2_with fail
    refine (H1.out _).mono ?_
    rintro e w1 ⟨rfl, rfl⟩
    go_wp2_with fail
    go_ret2
    exact ⟨by rw [HM.out]; rfl, Below.refl _ _⟩
  · have hb : cbB W H m = inB m 0 ((W : Int) * H) := by rw [cbB, hs, Bool.true_and]
    rw [hs] at h1
    have h2 := fun wr => l1In_any m 0 ((W : Int) * H) wr
    rw [← hb] at h2
    have h3 := fun wr => ctChoose_any (W * H) m (by omega) wr
    rw [Int.natCast_mul] at hn
    rw [Int.natCast_mul] at h3
    have a1 : 0 ≤ (W : Int) * H := Int.mul_nonneg (by omega) (by omega)
    have hM : cbM W H m = if cbB W H m = true then chI (W * H) m else 0 := rfl
    have H1 := Lib.hid h1
    have H3 := Lib.hid h3
    clear h1 h3 hb
    cases e1 : cbB W H m with
    | false =>
      rw [e1] at h2 hM
      have H2 := Lib.hid h2
      have HM := Lib.hid hM
      clear h2 hM hs e1
      go_enter Try.func7, Try.ntmps7
      go_wp2_with fail
      refine (H1.out _).mono ?_
      rintro e w1 ⟨rfl, rfl⟩
      go_wp2_with fail
      refine (H2.out _).mono ?_
      rintro e w1 ⟨rfl, rfl⟩
      go_wp2_with fail
      go_ret2
      exact ⟨by rw [HM.out]; rfl, Below.refl _ _⟩
    | true =>
      rw [e1] at h2 hM
      have H2 := Lib.hid h2
      have HM := Lib.hid hM
      clear h2 hM hs e1
      go_enter Try.func7, Try.ntmps7
      go_wp2_with fail
      refine (H1.out _).mono ?_
      rintro e w1 ⟨rfl, rfl⟩
      go_wp2_with fail
      refine (H2.out _).mono ?_
      rintro e w1 ⟨rfl, rfl⟩
      go_wp2_with fail
      refine (H3.out _).mono ?_
      rintro e w1 ⟨rfl, rfl⟩
      go_wp2_with fail
      go_ret2
      exact ⟨by rw [HM.out]; rfl, Below.refl _ _⟩
end Go.Proofs.Ythlbplmghjaeoac
