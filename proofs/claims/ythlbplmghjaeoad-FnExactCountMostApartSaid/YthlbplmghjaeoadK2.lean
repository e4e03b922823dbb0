/- Counts by the program: pairs of cells, most mines apart, means, greatest sums. -/
import Derived.Test.YthlbplmghjaeoadK1
import Derived.Test.YthlbplmghjaeoadP1
import Derived.Outline
namespace Go.Proofs.Ythlbplmghjaeoad
open Go.RowKit


set_option maxRecDepth 100000 in
theorem mostApart_any (W H : Nat) (hW : W ≤ 8) (hH : H ≤ 8) (ws : World) :
    Calls Try.prog 64 #[.int .i64 W, .int .i64 H] ws fun e w' => e = .returned (.int .i64 (((W : Int) + 1) / 2 * (((H : Int) + 1) / 2))) ∧ ws = w' := by
  obtain ⟨p1, p2⟩ := mulB (a := ((W : Int) + 1) / 2) (b := ((H : Int) + 1) / 2) ⟨by omega, by omega⟩ ⟨by omega, by omega⟩
  have a1 : wrap64 (((W : Int) + 1) / 2) = ((W : Int) + 1) / 2 := IntWalk.wrap64_in _ ⟨by omega, by omega⟩
  have a2 : wrap64 (((H : Int) + 1) / 2) = ((H : Int) + 1) / 2 := IntWalk.wrap64_in _ ⟨by omega, by omega⟩
  have a3 : wrap64 (((W : Int) + 1) / 2 * (((H : Int) + 1) / 2)) = ((W : Int) + 1) / 2 * (((H : Int) + 1) / 2) := IntWalk.wrap64_in _ ⟨by omega, by omega⟩
  have b1 : IntKind.i64.wrap (((W : Int) + 1) / 2) = ((W : Int) + 1) / 2 := IntWalk.i64_in _ ⟨by omega, by omega⟩
  have b2 : IntKind.i64.wrap (((H : Int) + 1) / 2) = ((H : Int) + 1) / 2 := IntWalk.i64_in _ ⟨by omega, by omega⟩
  go_enter Try.func64, Try.ntmps64
  go_wp2_with fail
  go_ret
  exact ⟨by first | rfl | (rw [a3]; rfl), rfl⟩


set_option maxRecDepth 100000 in
theorem greatest_all : ∀ W : Nat, W < 9 → 1 ≤ W → ∀ H : Nat, H < 9 → 1 ≤ H → gsM (W : Nat) (H : Nat) = prsM W H - min (((W - 1) * H : Nat) : Int) ((W * (H - 1) : Nat) : Int) := by decide +kernel

set_option maxRecDepth 100000 in
set_option maxHeartbeats 800000 in
theorem greatest_any (W H : Nat) (hW : 1 ≤ W ∧ W ≤ 8) (hH : 1 ≤ H ∧ H ≤ 8) (ws : World) :
    Calls Try.prog 36 #[.int .i64 W, .int .i64 H] ws fun e w' => e = .returned (.int .i64 (gsM W H)) ∧ Below ws.heap.size ws w' := by
  have HG := Lib.hid (greatest_all W (by omega) hW.1 H (by omega) hH.1)
  have HP := Lib.hid (pairs_any W H hW hH)
  obtain ⟨p1, p2⟩ := prsM_range W H hW hH
  have c1 : (W - 1) * H ≤ 64 := Nat.mul_le_mul (show W - 1 ≤ 8 by omega) hH.2
  have c2 : W * (H - 1) ≤ 64 := Nat.mul_le_mul hW.2 (show H - 1 ≤ 8 by omega)
  have e1 : ((W : Int) - 1) * H = (((W - 1) * H : Nat) : Int) := by rw [show (W : Int) - 1 = ((W - 1 : Nat) : Int) by omega, ← Int.natCast_mul]
  have e2 : (W : Int) * (H - 1) = ((W * (H - 1) : Nat) : Int) := by rw [show (H : Int) - 1 = ((H - 1 : Nat) : Int) by omega, ← Int.natCast_mul]
  have w1 : wrap64 (((W : Int) - 1) * H) = (((W - 1) * H : Nat) : Int) := by rw [e1]; exact IntWalk.wrap64_in _ ⟨by omega, by omega⟩
  have w2 : wrap64 ((W : Int) * (H - 1)) = ((W * (H - 1) : Nat) : Int) := by rw [e2]; exact IntWalk.wrap64_in _ ⟨by omega, by omega⟩
  clear e1 e2
  generalize (W - 1) * H = q1 at *
  generalize W * (H - 1) = q2 at *
  generalize prsM W H = q at *
  go_enter Try.func36, Try.ntmps36
  go_wp2_with fail
  refine (HP.out _).mono ?_
  rintro e w1 ⟨rfl, hb⟩
  go_wp2_with fail
  go_ret
  exact ⟨by rw [HG.out]; rfl, hb⟩

set_option maxRecDepth 100000 in
set_option maxHeartbeats 800000 in
theorem iGreatestSum_any (w h : Int) (ws : World) :
    Calls Try.prog 23 #[.int .i64 w, .int .i64 h] ws fun e w' => e = .returned (.tuple #[.int .i64 (gsM w h), .bool (szB w h 64)]) ∧ Below ws.heap.size ws w' := by
  have h1 := fun wr => isSizeB_any w h wr
  rw [← sz64] at h1
  rcases sz_case w h 64 with hs | ⟨hs, W, H, rfl, rfl, hW1, hW2, hH1, hH2, hn⟩
  · have HM : Hid (gsM w h = 0) := by rw [Hid, gsM, hs]; rfl
    rw [hs] at h1 ⊢
    have H1 := Lib.hid h1
    clear hs h1
    go_enter Try.func23, Try.ntmps23
    go_wp2_with fail
    refine (H1.out _).mono ?_
    rintro e w1 ⟨rfl, rfl⟩
    go_wp2_with fail
    go_ret2
    exact ⟨by rw [HM.out]; rfl, Below.refl _ _⟩
  · have HP := Lib.hid (greatest_any W H ⟨hW1, hW2⟩ ⟨hH1, hH2⟩)
    rw [hs] at h1 ⊢
    have H1 := Lib.hid h1
    clear hs h1
    generalize gsM W H = q at *
    go_enter Try.func23, Try.ntmps23
    go_wp2_with fail
    refine (H1.out _).mono ?_
    rintro e w1 ⟨rfl, rfl⟩
    go_wp2_with fail
    refine (HP.out _).mono ?_
    rintro e w1 ⟨rfl, hb⟩
    go_wp2_with fail
    go_ret2
    exact ⟨rfl, hb⟩
end Go.Proofs.Ythlbplmghjaeoad
