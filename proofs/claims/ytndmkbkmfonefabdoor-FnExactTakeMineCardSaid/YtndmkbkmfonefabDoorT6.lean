/- Walks: a mine taken away, by the model. -/
import Derived.Test.YtndmkbkmfonefabDoorT5
namespace Go.Proofs.YtndmkbkmfonefabDoor
open Go.RowKit

set_option maxRecDepth 100000 in
set_option maxHeartbeats 800000 in
theorem sTakeMine_any (l : List UInt8) (c : Int) (w : World) (hl : l.length ≤ 1048576) :
    Calls Tryd.prog 13 #[.string ⟨l.toArray⟩, .int .i64 c] w fun e w' => e = .returned (.tuple #[.string ⟨(chM l c 42 46).toArray⟩, .bool (chOK l c 42)]) ∧ Below w.heap.size w w' := by
  cases hc : cellOK l c with
  | false =>
    have HO := Lib.hid (show chOK l c 42 = false by rw [chOK, hc]; rfl)
    have HT := Lib.hid (show chM l c 42 46 = [] by rw [chM, HO.out]; rfl)
    have h1 := boCell_any l c w hl
    rw [hc] at h1
    clear hc
    go_enter Tryd.func13, Tryd.ntmps13
    go_wp2_with (go_at_call 39; refine h1.mono ?_; rintro e w1 ⟨rfl, hb⟩)
    go_ret2
    exact ⟨by rw [HO.out, HT.out]; rfl, hb⟩
  | true =>
    obtain ⟨hg, k, hck, hk⟩ := cellOK_yes hc
    have hB := Brd.of hg
    generalize headLen (splitB 47 l) = W at *
    generalize (splitB 47 l).length = H at *
    obtain ⟨g1, g2, g3⟩ := hB.grid
    have HO := Lib.hid (show chOK l c 42 = ((cellsM l)[k] == 42) by rw [chOK, hc, hck, g3]; simp [List.getD, hk])
    have HT := Lib.hid (show chM l c 42 46 = if chOK l c 42 = true then textM ((cellsM l).set k 46) W H else [] by rw [chM, hck, g1, g2, g3]; rfl)
    have h1 := boCell_any l c w hl
    rw [hc] at h1
    have hs := hB.sign _ (List.getElem_mem hk)
    have hput := fun w => boPut_any l W H (cellsM l) k 46 w hl hB.grd hk
    have hcs := boCells_any l
    clear hc g1 g2 g3 hB hg
    subst hck
    generalize cellsM l = cells at *
    by_cases hq : cells[k] = 42
    · have hd : ((cells[k].toNat : Int) != 42) = false := by simp only [bne]; rw [is42]; simp [hq]
      have HO2 := Lib.hid (show chOK l k 42 = true by rw [HO.out, hq]; rfl)
      have HT2 := Lib.hid (show chM l k 42 46 = textM (cells.set k 46) W H by rw [HT.out, HO2.out]; rfl)
      clear hs hq HO HT
      go_enter Tryd.func13, Tryd.ntmps13
      go_wp2_with fail
      refine h1.mono ?_
      rintro e w1 ⟨rfl, hb⟩
      go_wp2_with fail
      refine (hcs _ hl).mono ?_
      rintro e w1' ⟨rfl, rfl⟩
      go_wp2_with fail
      refine (hput _).mono ?_
      rintro e w2 ⟨rfl, hb2⟩
      go_wp2_with fail
      go_ret2
      exact ⟨by rw [HO2.out, HT2.out]; rfl, hb.trans (hb2.mono hb.size)⟩
    · have hd : ((cells[k].toNat : Int) != 42) = true := by simp only [bne]; rw [is42]; simp [hq]
      have HO2 := Lib.hid (show chOK l k 42 = false by rw [HO.out]; simpa using hq)
      have HT2 := Lib.hid (show chM l k 42 46 = [] by rw [HT.out, HO2.out]; rfl)
      clear hs hq HO HT
      go_enter Tryd.func13, Tryd.ntmps13
      go_wp2_with fail
      refine h1.mono ?_
      rintro e w1 ⟨rfl, hb⟩
      go_wp2_with fail
      refine (hcs _ hl).mono ?_
      rintro e w1' ⟨rfl, rfl⟩
      go_wp2_with fail
      go_ret2
      exact ⟨by rw [HO2.out, HT2.out]; rfl, hb⟩
end Go.Proofs.YtndmkbkmfonefabDoor
