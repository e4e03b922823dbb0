/- Counts by the program: pairs of cells, most mines apart, means, greatest sums. -/
import Derived.Test.YthlbplmghjaeoacK1
import Derived.Test.YthlbplmghjaeoacP1
import Derived.Outline
namespace Go.Proofs.Ythlbplmghjaeoac
open Go.RowKit

set_option maxRecDepth 100000 in
set_option maxHeartbeats 800000 in
theorem iPairsOfCells_any (w h : Int) (ws : World) :
    Calls Try.prog 6 #[.int .i64 w, .int .i64 h] ws fun e w' => e = .returned (.tuple #[.int .i64 (pcM w h), .bool (szB w h 64)]) ∧ Below ws.heap.size ws w' := by
  have h1 := fun wr => isSizeB_any w h wr
  rw [← sz64] at h1
  rcases sz_case w h 64 with hs | ⟨hs, W, H, rfl, rfl, hW1, hW2, hH1, hH2, hn⟩
  · have HM : Hid (pcM w h = 0) := by rw [Hid, pcM, hs]; rfl
    rw [hs] at h1 ⊢
    have H1 := Lib.hid h1
    clear hs h1
    go_enter Try.func6, Try.ntmps6
    go_wp2_with fail
    refine (H1.out _).mono ?_
    rintro e w1 ⟨rfl, rfl⟩
    go_wp2_with fail
    go_ret2
    exact ⟨by rw [HM.out]; rfl, Below.refl _ _⟩
  · have HM : Hid (pcM W H = prsM W H) := by rw [Hid, pcM, hs]; rfl
    have HP := Lib.hid (pairs_any W H ⟨hW1, hW2⟩ ⟨hH1, hH2⟩)
    rw [hs] at h1 ⊢
    have H1 := Lib.hid h1
    clear hs h1
    go_enter Try.func6, Try.ntmps6
    go_wp2_with fail
    refine (H1.out _).mono ?_
    rintro e w1 ⟨rfl, rfl⟩
    go_wp2_with fail
    refine (HP.out _).mono ?_
    rintro e w1 ⟨rfl, hb⟩
    go_wp2_with fail
    go_ret2
    exact ⟨by rw [HM.out]; rfl, hb⟩



set_option maxRecDepth 100000 in
theorem greatest_all : ∀ W : Nat, W < 9 → 1 ≤ W → ∀ H : Nat, H < 9 → 1 ≤ H → gsM (W : Nat) (H : Nat) = prsM W H - min (((W - 1) * H : Nat) : Int) ((W * (H - 1) : Nat) : Int) := by decide +kernel


end Go.Proofs.Ythlbplmghjaeoac
