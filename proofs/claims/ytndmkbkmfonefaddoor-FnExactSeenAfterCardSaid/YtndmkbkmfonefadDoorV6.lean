/- Cells open behind clicks, by the model: the functions. -/
import Derived.Test.YtndmkbkmfonefadDoorV3
import Derived.Test.YtndmkbkmfonefadDoorYF
import Derived.Outline
namespace Go.Proofs.YtndmkbkmfonefadDoor
open Go.RowKit

/-- Clicks as cells. -/
def csOf (xs : List Int) : List Nat := xs.map Int.toNat
@[simp] theorem csOf_length (xs : List Int) : (csOf xs).length = xs.length := by simp [csOf]
theorem clk_cells {l : List UInt8} {xs : List Int} (h : clkOK l xs = true) : ints xs = nats (csOf xs) ∧ (∀ c ∈ csOf xs, c < (gCells l).length ∧ (gCells l).getD c 0 = 46) := by
  obtain ⟨hg, _, hf⟩ := clk_yes h
  have key : ∀ x ∈ xs, ((x.toNat : Nat) : Int) = x ∧ x.toNat < (gCells l).length ∧ (gCells l).getD x.toNat 0 = 46 := by
    intro x hx
    obtain ⟨_, k, rfl, hk, hne⟩ := freeOK_yes (hf x hx)
    refine ⟨rfl, hk, ?_⟩
    have hgc : gCells l = cellsM l := by rw [gCells, if_pos hg]
    have hs := cells_sign hg ((gCells l).getD k 0) (by
      rw [← hgc, List.getD_eq_getElem?_getD, List.getElem?_eq_getElem hk]
      exact List.getElem_mem hk)
    rcases hs with h | h
    · exact h
    · exact absurd h hne
  refine ⟨?_, ?_⟩
  · simp only [nats, ints, csOf, List.map_map]
    apply List.map_congr_left
    intro x hx
    simp [(key x hx).1]
  · intro c hc
    obtain ⟨x, hx, rfl⟩ := List.mem_map.1 hc
    exact (key x hx).2
def oaOf (l : List UInt8) (xs : List Int) : List Nat := if clkOK l xs = true then aftM (gCells l) (gW l) (csOf xs) else []
def ndOf (l : List UInt8) (xs : List Int) : List Nat := if clkOK l xs = true then needM (gCells l) (gW l) (csOf xs) else []

set_option maxRecDepth 100000 in
set_option maxHeartbeats 1600000 in
theorem sOpenAfter_any (l : List UInt8) (xs : List Int) (a : Option Addr) (cap : Nat) (w : World) (hl : l.length ≤ 1048576) (hat : At w a (ints xs)) (hx : xs.length ≤ 1048576) :
    Calls Tryd.prog 13 #[.string ⟨l.toArray⟩, .slice a xs.length cap] w fun e w' => ∃ a' c', e = .returned (.tuple #[.slice a' (oaOf l xs).length c', .bool (clkOK l xs)]) ∧ Owns w' w.heap.size 3 (.slice a' (oaOf l xs).length c') (nats (oaOf l xs)) ∧ Below w.heap.size w w' := by
  have hck := fun w h => opClicks_any l xs a cap w hl h hx
  cases hv : clkOK l xs with
  | false =>
    have HO : Hid (oaOf l xs = []) := by rw [Hid, oaOf, if_neg (by rw [hv]; decide)]
    rw [hv] at hck
    clear hv
    go_enter Tryd.func13, Tryd.ntmps13
    go_wp2_with fail
    refine (hck _ hat).mono ?_
    rintro e w1 ⟨rfl, hb1⟩
    go_wp2_with fail
    go_ret2
    exact ⟨none, 0, by rw [HO.out]; rfl, by rw [HO.out]; exact Owns.nil _ _ _, hb1⟩
  | true =>
    obtain ⟨hg, h64, _⟩ := clk_yes hv
    obtain ⟨hcs, hcc⟩ := clk_cells hv
    have hB := Brd.of hg
    obtain ⟨g1, g2, g3⟩ := hB.grid
    have HO : Hid (oaOf l xs = aftM (cellsM l) (headLen (splitB 47 l)) (csOf xs)) := by rw [Hid, oaOf, if_pos hv, g1, g3]
    rw [g3] at hcc
    rw [hv] at hck
    have hop := fun w h => opAfter_any l _ _ _ (csOf xs) a cap w hl hB h (by simpa using h64) (fun c hc => (hcc c hc).1) (fun c hc => (hcc c hc).2)
    rw [csOf_length, ← hcs] at hop
    rw [← HO.out] at hop
    have HOP := Lib.hid hop
    have HCK := Lib.hid hck
    clear hv hcs hcc hB g1 g2 g3 hop hck hg
    go_enter Tryd.func13, Tryd.ntmps13
    go_wp2_with fail
    refine (HCK.out _ hat).mono ?_
    rintro e w1 ⟨rfl, hb1⟩
    go_wp2_with fail
    refine (HOP.out _ (hat.later rfl hb1)).mono ?_
    rintro e w2 ⟨a1, c1, a2, c2, rfl, ho1, ho2, hb2⟩
    go_wp2_with fail
    go_ret2
    exact ⟨a1, c1, rfl, ho1.mono hb1.size, hb1.trans (hb2.mono hb1.size)⟩
end Go.Proofs.YtndmkbkmfonefadDoor
