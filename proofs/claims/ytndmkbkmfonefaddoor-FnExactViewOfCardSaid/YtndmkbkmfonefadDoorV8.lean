/- Cells open behind clicks, by the model: the functions (whether all are open). -/
import Derived.Test.YtndmkbkmfonefadDoorGV1
import Derived.Outline
namespace Go.Proofs.YtndmkbkmfonefadDoor
open Go.RowKit

def aaOf (l : List UInt8) (xs : List Int) : Bool := clkOK l xs && decide ((oaOf l xs).length = (places 46 (gCells l)).length)
theorem int_beq_len (x y : Nat) : decide (x = y) = ((x : Int) == (y : Int)) := by
  by_cases h : x = y
  · simp [h]
  · have : ¬ (x : Int) = (y : Int) := by omega
    rw [decide_eq_false h]; exact (beq_eq_false_iff_ne.2 this).symm

set_option maxRecDepth 100000 in
set_option maxHeartbeats 1600000 in
theorem sAreAllOpen_any (l : List UInt8) (xs : List Int) (a : Option Addr) (cap : Nat) (w : World) (hl : l.length ≤ 1048576) (hat : At w a (ints xs)) (hx : xs.length ≤ 1048576) :
    Calls Tryd.prog 19 #[.string ⟨l.toArray⟩, .slice a xs.length cap] w fun e w' => e = .returned (.tuple #[.bool (aaOf l xs), .bool (clkOK l xs)]) ∧ Below w.heap.size w w' := by
  have hck := fun w h => opClicks_any l xs a cap w hl h hx
  cases hv : clkOK l xs with
  | false =>
    have HO : Hid (aaOf l xs = false) := by rw [Hid, aaOf, hv]; rfl
    rw [hv] at hck
    clear hv
    go_enter Tryd.func19, Tryd.ntmps19
    go_wp2_with fail
    refine (hck _ hat).mono ?_
    rintro e w1 ⟨rfl, hb1⟩
    go_wp2_with fail
    go_ret2
    exact ⟨by rw [HO.out]; rfl, hb1⟩
  | true =>
    obtain ⟨hg, h64, _⟩ := clk_yes hv
    obtain ⟨hcs, hcc⟩ := clk_cells hv
    have hB := Brd.of hg
    obtain ⟨g1, g2, g3⟩ := hB.grid
    have HO : Hid (oaOf l xs = aftM (cellsM l) (headLen (splitB 47 l)) (csOf xs)) := by rw [Hid, oaOf, if_pos hv, g1, g3]
    have HV : Hid (aaOf l xs = (((oaOf l xs).length : Int) == ((places 46 (cellsM l)).length : Int))) := by
      rw [Hid, aaOf, hv, g3, Bool.true_and, int_beq_len]
    rw [g3] at hcc
    have hn64 := hB.n64
    have hcl := fun w => boCells_any l w hl
    have hmi := fun w => boMines_any (cellsM l) 46 _ rfl w (by omega)
    rw [hv] at hck
    have hop := fun w h => opAfter_any l _ _ _ (csOf xs) a cap w hl hB h (by simpa using h64) (fun c hc => (hcc c hc).1) (fun c hc => (hcc c hc).2)
    rw [csOf_length, ← hcs] at hop
    rw [← HO.out] at hop
    have HOP := Lib.hid hop
    have HCK := Lib.hid hck
    clear hv hcs hcc hB g1 g2 g3 hop hck hg
    go_enter Tryd.func19, Tryd.ntmps19
    go_wp2_with fail
    refine (HCK.out _ hat).mono ?_
    rintro e w1 ⟨rfl, hb1⟩
    go_wp2_with fail
    refine (HOP.out _ (hat.later rfl hb1)).mono ?_
    rintro e w2 ⟨a1, c1, a2, c2, rfl, ho1, ho2, hb2⟩
    go_wp2_with fail
    refine (hcl _).mono ?_
    rintro e w2' ⟨rfl, rfl⟩
    go_wp2_with fail
    refine (hmi _).mono ?_
    rintro e w3 ⟨a3, c3, rfl, ho3, hb3⟩
    go_wp2_with fail
    go_ret2
    exact ⟨by rw [HV.out]; rfl, (hb1.trans (hb2.mono hb1.size)).trans (hb3.mono (by have := hb1.size; have := hb2.size; omega))⟩
end Go.Proofs.YtndmkbkmfonefadDoor
