/- Cells open behind clicks, by the model: the functions (the needless ones). -/
import Derived.Test.YtndmkbkmfonefadDoorV6
import Derived.Outline
namespace Go.Proofs.YtndmkbkmfonefadDoor
open Go.RowKit

set_option maxRecDepth 100000 in
set_option maxHeartbeats 1600000 in
theorem sNeedlessClicks_any (l : List UInt8) (xs : List Int) (a : Option Addr) (cap : Nat) (w : World) (hl : l.length ≤ 1048576) (hat : At w a (ints xs)) (hx : xs.length ≤ 1048576) :
    Calls Tryd.prog 21 #[.string ⟨l.toArray⟩, .slice a xs.length cap] w fun e w' => ∃ a' c', e = .returned (.tuple #[.slice a' (ndOf l xs).length c', .bool (clkOK l xs)]) ∧ Owns w' w.heap.size 3 (.slice a' (ndOf l xs).length c') (nats (ndOf l xs)) ∧ Below w.heap.size w w' := by
  have hck := fun w h => opClicks_any l xs a cap w hl h hx
  cases hv : clkOK l xs with
  | false =>
    have HO : Hid (ndOf l xs = []) := by rw [Hid, ndOf, if_neg (by rw [hv]; decide)]
    rw [hv] at hck
    clear hv
    go_enter Tryd.func21, Tryd.ntmps21
    go_wp2_with fail
    refine (hck _ hat).mono ?_
    rintro e w1 ⟨rfl, hb1⟩
    go_wp2_with fail
    go_ret2
    exact ⟨none, 0, by rw [HO.out]; rfl, by rw [HO.out]; exact Owns.nil _ _ _, hb1⟩
  | true =>
    obtain ⟨hg, h64, _⟩ := clk_yes hv
    obtain ⟨hcs, hcc⟩ := clk_cells hv
    have hB := Brd.of hg
    obtain ⟨g1, g2, g3⟩ := hB.grid
    have HO : Hid (ndOf l xs = needM (cellsM l) (headLen (splitB 47 l)) (csOf xs)) := by rw [Hid, ndOf, if_pos hv, g1, g3]
    rw [g3] at hcc
    rw [hv] at hck
    have hop := fun w h => opAfter_any l _ _ _ (csOf xs) a cap w hl hB h (by simpa using h64) (fun c hc => (hcc c hc).1) (fun c hc => (hcc c hc).2)
    rw [csOf_length, ← hcs] at hop
    rw [← HO.out] at hop
    have HOP := Lib.hid hop
    have HCK := Lib.hid hck
    clear hv hcs hcc hB g1 g2 g3 hop hck hg
    go_enter Tryd.func21, Tryd.ntmps21
    go_wp2_with fail
    refine (HCK.out _ hat).mono ?_
    rintro e w1 ⟨rfl, hb1⟩
    go_wp2_with fail
    refine (HOP.out _ (hat.later rfl hb1)).mono ?_
    rintro e w2 ⟨a1, c1, a2, c2, rfl, ho1, ho2, hb2⟩
    go_wp2_with fail
    go_ret2
    exact ⟨a2, c2, rfl, ho2.mono hb1.size, hb1.trans (hb2.mono hb1.size)⟩
end Go.Proofs.YtndmkbkmfonefadDoor
