/- Counts by the program: sizes, pairs of cells, lowest terms. -/
import Derived.Test.YthlbplmghjaeoacJE
import Derived.Test.YthlbplmghjaeoacJG
import Derived.Test.YthlbplmghjaeoacZ2
import Derived.Test.YthlbplmghjaeoacU1
import Derived.Test.YthlbplmghjaeoacN3
import Derived.Deep.RegionHeld3
import Derived.IntWalk
import Derived.Deep.QuietTactic
import Derived.Outline
namespace Go.Proofs.Ythlbplmghjaeoac
open Go.RowKit

theorem isSizeB_any (x y : Int) (w : World) :
    Calls Try.prog 11 #[.int .i64 x, .int .i64 y] w fun e w' => e = .returned (.bool (inB x 1 8 && inB y 1 8)) ∧ w = w' := by
  cases h : (inB x 1 8 && inB y 1 8) with
  | false => exact isSizeI_no x y w h
  | true =>
    rw [Bool.and_eq_true, inB_iff, inB_iff] at h
    obtain ⟨X, rfl⟩ : ∃ X : Nat, x = X := ⟨x.toNat, by omega⟩
    obtain ⟨Y, rfl⟩ : ∃ Y : Nat, y = Y := ⟨y.toNat, by omega⟩
    have := isSize_any X Y w
    rwa [show sizeOK X Y = true by simp [sizeOK]; omega] at this
theorem sz64 (w h : Int) : szB w h 64 = (inB w 1 8 && inB h 1 8) := by
  unfold szB
  cases hs : (inB w 1 8 && inB h 1 8) with
  | false => rfl
  | true =>
    rw [Bool.and_eq_true, inB_iff, inB_iff] at hs
    have := mulB (a := w) (b := h) ⟨by omega, by omega⟩ ⟨by omega, by omega⟩
    simp [this.2]

set_option maxRecDepth 100000 in
theorem isSmall_any (w h : Int) (wr : World) :
    Calls Try.prog 18 #[.int .i64 w, .int .i64 h] wr fun e w' => e = .returned (.bool (szB w h 12)) ∧ wr = w' := by
  have h1 := fun wr => isSizeB_any w h wr
  rw [szB]
  cases hs : (inB w 1 8 && inB h 1 8) with
  | false =>
    rw [hs] at h1
    have H1 := Lib.hid h1
    clear hs h1
    go_enter Try.func18, Try.ntmps18
    go_wp2_with fail
    refine (H1.out _).mono ?_
    rintro e w1 ⟨rfl, rfl⟩
    go_wp2_with fail
    go_ret
    exact ⟨rfl, rfl⟩
  | true =>
    rw [hs] at h1
    have H1 := Lib.hid h1
    rw [Bool.and_eq_true, inB_iff, inB_iff] at hs
    obtain ⟨p1, p2⟩ := mulB (a := w) (b := h) ⟨by omega, by omega⟩ ⟨by omega, by omega⟩
    have wr1 : IntKind.i64.wrap (w * h) = w * h := IntWalk.i64_in _ ⟨by omega, by omega⟩
    have wr2 : wrap64 (w * h) = w * h := IntWalk.wrap64_in _ ⟨by omega, by omega⟩
    clear hs h1
    go_enter Try.func18, Try.ntmps18
    go_wp2_with fail
    refine (H1.out _).mono ?_
    rintro e w1 ⟨rfl, rfl⟩
    by_cases h12 : w * h ≤ 12
    · go_wp2_with fail
      go_ret
      exact ⟨by simp [h12], rfl⟩
    · go_wp2_with fail
      go_ret
      exact ⟨by simp [h12], rfl⟩

set_option maxRecDepth 100000 in
theorem isMines_any (w h m : Int) (wr : World) :
    Calls Try.prog 19 #[.int .i64 w, .int .i64 h, .int .i64 m] wr fun e w' => e = .returned (.bool (msB w h m)) ∧ wr = w' := by
  have h1 := fun wr => isSizeB_any w h wr
  rw [msB, sz64]
  cases hs : (inB w 1 8 && inB h 1 8) with
  | false =>
    rw [hs] at h1
    have H1 := Lib.hid h1
    clear hs h1
    go_enter Try.func19, Try.ntmps19
    go_wp2_with fail
    refine (H1.out _).mono ?_
    rintro e w1 ⟨rfl, rfl⟩
    go_wp2_with fail
    go_ret
    exact ⟨rfl, rfl⟩
  | true =>
    rw [hs] at h1
    have H1 := Lib.hid h1
    rw [Bool.and_eq_true, inB_iff, inB_iff] at hs
    obtain ⟨p1, p2⟩ := mulB (a := w) (b := h) ⟨by omega, by omega⟩ ⟨by omega, by omega⟩
    have wr2 : wrap64 (w * h) = w * h := IntWalk.wrap64_in _ ⟨by omega, by omega⟩
    clear hs h1
    go_enter Try.func19, Try.ntmps19
    go_wp2_with fail
    refine (H1.out _).mono ?_
    rintro e w1 ⟨rfl, rfl⟩
    by_cases h0 : 0 ≤ m
    · by_cases h12 : m ≤ w * h
      · go_wp2_with fail
        go_ret
        exact ⟨by simp [inB]; omega, rfl⟩
      · go_wp2_with fail
        go_ret
        exact ⟨by simp [inB]; omega, rfl⟩
    · go_wp2_with fail
      go_ret
      exact ⟨by simp [inB, h0]; intro h9; omega, rfl⟩

/-- How many neighbours the first k cells have. -/
def endsGo (W n : Nat) : Nat → Nat
  | 0 => 0
  | k + 1 => endsGo W n k + (nearM W n k).length
theorem endsGo_le (W n : Nat) (hn : n ≤ 64) : ∀ k, endsGo W n k ≤ k * 64
  | 0 => Nat.le_refl _
  | k + 1 => by
    have := endsGo_le W n hn k
    have h2 : (nearM W n k).length ≤ 64 := Nat.le_trans (nearGo_le W k n 0) hn
    unfold endsGo; omega
set_option maxRecDepth 100000 in
theorem ends_all : ∀ W : Nat, W < 9 → 1 ≤ W → ∀ H : Nat, H < 9 → 1 ≤ H → ((endsGo W (W * H) (W * H) / 2 : Nat) : Int) = prsM W H := by decide +kernel

set_option maxRecDepth 100000 in
set_option maxHeartbeats 1600000 in
theorem pairs_any (W H : Nat) (hW : 1 ≤ W ∧ W ≤ 8) (hH : 1 ≤ H ∧ H ≤ 8) (w : World) :
    Calls Try.prog 12 #[.int .i64 W, .int .i64 H] w fun e w' => e = .returned (.int .i64 (prsM W H)) ∧ Below w.heap.size w w' := by
  have hall := ends_all W (by omega) hW.1 H (by omega) hH.1
  have h64 : W * H ≤ 64 := Nat.mul_le_mul hW.2 hH.2
  have hfg := fun w => freeGrid_any W H w hW.2 hH.2
  generalize hn : W * H = n at *
  have hnb := fun a cap c w (hc : c < n) => neighbours_any W H a n cap c w hW.1 (by omega) h64
  have HNB := Lib.hid hnb
  have HFG := Lib.hid hfg
  have HALL := Lib.hid hall
  clear hnb hfg hall hn
  go_enter Try.func12, Try.ntmps12
  go_wp2_with fail
  refine (HFG.out _).mono ?_
  rintro e w1 ⟨a, cap, rfl, hown, hb1⟩
  clear hown
  go_wp2_with fail
  have hGb : Hid ((w1.alloc (.cells #[.int .i64 W, .int .i64 H, .slice a n cap, .bool false] 31)).heap[w1.heap.size]? = some (.cells #[.int .i64 W, .int .i64 H, .slice a n cap, .bool false] 31 (0, 0))) := heap_alloc_new w1 _
  have hb2 : Below w.heap.size w (w1.alloc (.cells #[.int .i64 W, .int .i64 H, .slice a n cap, .bool false] 31)) := hb1.alloc hb1.size _
  have s1 := hb1.size
  clear hb1
  generalize w1.alloc (.cells #[.int .i64 W, .int .i64 H, .slice a n cap, .bool false] 31) = w2 at *
  generalize w1.heap.size = G at *
  go_loopw [6, 14] (fun x i wr => ∃ k : Nat, k ≤ n ∧ i = .int .i64 k ∧ x = .int .i64 ((endsGo W n k : Nat) : Int) ∧ Hid (wr.heap[G]? = some (.cells #[.int .i64 W, .int .i64 H, .slice a n cap, .bool false] 31 (0, 0))) ∧ Below w.heap.size w wr) (fun _ i _ => n - (intOf i).toNat)
  case atStart => exact ⟨0, Nat.zero_le _, rfl, rfl, hGb, hb2⟩
  case round =>
    clear hGb hb2
    obtain ⟨k, hk, rfl, rfl, hGb, hbw⟩ := hrel
    have hle := endsGo_le W n h64 k
    have hk2 : k * 64 ≤ 4096 := Nat.mul_le_mul_right 64 (show k ≤ 64 by omega)
    by_cases hlt : k < n
    · have hf0 := cell_of_block hGb.out 0
      have hf1 := cell_of_block hGb.out 1
      have hf2 := cell_of_block hGb.out 2
      have hf3 := cell_of_block hGb.out 3
      simp at hf0 hf1 hf2 hf3
      have hGlt := block_lt hGb.out
      have HS : Hid (endsGo W n (k + 1) = endsGo W n k + (nearM W n k).length) := rfl
      have hnl := nearM_le W n k
      go_wp2_with fail
      refine (HNB.out _ _ _ _ hlt).mono ?_
      rintro e w3 ⟨a', cap', rfl, hown, hb3⟩
      clear hown
      have hGb3 : Hid (w3.heap[G]? = some (.cells #[.int .i64 W, .int .i64 H, .slice a n cap, .bool false] 31 (0, 0))) := (hb3.block G hGlt).trans hGb.out
      have hbw3 : Below w.heap.size w w3 := hbw.trans (hb3.mono hbw.size)
      clear hGb hbw hf0 hf1 hf2 hf3 hb3
      go_wp2_with fail
      go_roundw
      case rel => exact ⟨k + 1, by omega, by go_num, by rw [HS.out]; go_num, hGb3, hbw3⟩
      case measure => simp [intOf]; omega
    · obtain rfl : k = n := by omega
      have HD : Hid (((endsGo W k k : Nat) : Int) / 2 = prsM W H) := by
        rw [Hid, ← HALL.out]; exact (Int.natCast_ediv _ _).symm
      have hq1 : ((endsGo W k k : Nat) : Int) / 2 ≤ 4096 := by omega
      have hq2 : 0 ≤ ((endsGo W k k : Nat) : Int) / 2 := by omega
      have hwr : IntKind.i64.wrap (((endsGo W k k : Nat) : Int) / 2) = ((endsGo W k k : Nat) : Int) / 2 := IntWalk.i64_in _ ⟨by omega, by omega⟩
      go_wp2_with fail
      go_ret
      exact ⟨by rw [HD.out]; rfl, hbw⟩

end Go.Proofs.Ythlbplmghjaeoac
