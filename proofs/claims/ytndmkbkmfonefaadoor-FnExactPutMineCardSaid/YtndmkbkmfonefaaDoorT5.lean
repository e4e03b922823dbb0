/- Walks: another sign in a cell, by the model. -/
import Derived.Test.YtndmkbkmfonefaaDoorT4
import Derived.Outline
namespace Go.Proofs.YtndmkbkmfonefaaDoor
open Go.RowKit

set_option maxRecDepth 100000 in
set_option maxHeartbeats 400000 in
theorem boPut_any (l : List UInt8) (W H : Nat) (cells : List UInt8) (k : Nat) (s : UInt8) (w : World) (hl : l.length ≤ 1048576) (hB : Grd l W H cells) (hk : k < cells.length) :
    Calls Tryd.prog 55 #[.string ⟨l.toArray⟩, .int .i64 k, .string ⟨[s].toArray⟩] w fun e w' => e = .returned (.string ⟨(textM (cells.set k s) W H).toArray⟩) ∧ Below w.heap.size w w' := by
  have hn64 := hB.n64
  have HC := Lib.hid hB.cs
  have HS := Lib.hid hB.size
  have hset : Hid (cells.take k ++ s :: List.take (cells.length - (k + 1)) (cells.drop (k + 1)) = cells.set k s) := by
    rw [Hid, List.set_eq_take_append_cons_drop, if_pos hk, List.take_of_length_le (l := cells.drop (k + 1)) (by simp)]
  have hbr : Hid (brGo W 0 (cells.set k s) = textM (cells.set k s) W H) := brGo_text W H hB.w1 _ (by simpa using hB.len)
  have hW1 := hB.w1
  have hW8 := hB.w8
  go_enter Tryd.func55, Tryd.ntmps55
  go_wp2_with fail
  refine (boSize_any l _ hl).mono ?_
  rintro e w1 ⟨rfl, hb1⟩
  rw [HS.out]
  go_wp2_with fail
  refine (boCells_any l _ hl).mono ?_
  rintro e w1' ⟨rfl, rfl⟩
  rw [HC.out]
  clear hB
  go_wp2_with fail
  have i0 : (0 : Int) ≤ (k : Int) := by omega
  have i1 : (k : Int) ≤ (cells.length : Int) := by omega
  have i2 : (k : Int) + 1 ≤ (cells.length : Int) := by omega
  have i3 : IntKind.i64.wrap ((k : Int) + 1) = (k : Int) + 1 := IntWalk.i64_in _ ⟨by omega, by omega⟩
  have j1 : ¬ 9223372036854775807 < min k cells.length + 1 := by omega
  have j2 : ¬ 9223372036854775807 < min k cells.length + 1 + (cells.length - (k + 1)) := by omega
  have i4 : (0 : Int) ≤ (k : Int) + 1 := by omega
  have hc : ∀ w, Calls Tryd.prog 50 #[.string ⟨(cells.take k ++ s :: List.take (cells.length - (k + 1)) (cells.drop (k + 1))).toArray⟩, .int .i64 W] w fun e w' => e = .returned (.string ⟨(textM (cells.set k s) W H).toArray⟩) ∧ w' = w := fun w => by
    have q := boRows_any (cells.set k s) W w (by simpa using hn64) hW1 (by omega)
    rw [hbr.out] at q
    rw [hset.out]
    exact q.mono fun _ _ h => ⟨h.1, h.2.symm⟩
  obtain ⟨R, hR⟩ : ∃ R, textM (cells.set k s) W H = R := ⟨_, rfl⟩
  rw [hR] at hc
  have HR := Lib.hid hR
  clear hbr hset hR
  go_quiet ((go_at_call 50; refine Calls.quiet_of_same (hc _)))
  go_wp2_with fail
  go_ret
  exact ⟨by rw [HR.out]; rfl, below_drewN hb1 _⟩

set_option maxRecDepth 100000 in
set_option maxHeartbeats 800000 in
theorem sPutMine_any (l : List UInt8) (c : Int) (w : World) (hl : l.length ≤ 1048576) :
    Calls Tryd.prog 34 #[.string ⟨l.toArray⟩, .int .i64 c] w fun e w' => e = .returned (.tuple #[.string ⟨(chM l c 46 42).toArray⟩, .bool (chOK l c 46)]) ∧ Below w.heap.size w w' := by
  cases hc : cellOK l c with
  | false =>
    have HO := Lib.hid (show chOK l c 46 = false by rw [chOK, hc]; rfl)
    have HT := Lib.hid (show chM l c 46 42 = [] by rw [chM, HO.out]; rfl)
    have h1 := boCell_any l c w hl
    rw [hc] at h1
    clear hc
    go_enter Tryd.func34, Tryd.ntmps34
    go_wp2_with (go_at_call 42; refine h1.mono ?_; rintro e w1 ⟨rfl, hb⟩)
    go_ret2
    exact ⟨by rw [HO.out, HT.out]; rfl, hb⟩
  | true =>
    obtain ⟨hg, k, hck, hk⟩ := cellOK_yes hc
    have hB := Brd.of hg
    generalize headLen (splitB 47 l) = W at *
    generalize (splitB 47 l).length = H at *
    obtain ⟨g1, g2, g3⟩ := hB.grid
    have HO := Lib.hid (show chOK l c 46 = ((cellsM l)[k] == 46) by rw [chOK, hc, hck, g3]; simp [List.getD, hk])
    have HT := Lib.hid (show chM l c 46 42 = if chOK l c 46 = true then textM ((cellsM l).set k 42) W H else [] by rw [chM, hck, g1, g2, g3]; rfl)
    have h1 := boCell_any l c w hl
    rw [hc] at h1
    have hs := hB.sign _ (List.getElem_mem hk)
    have hput := fun w => boPut_any l W H (cellsM l) k 42 w hl hB.grd hk
    have hcs := boCells_any l
    clear hc g1 g2 g3 hB hg
    subst hck
    generalize cellsM l = cells at *
    by_cases hq : cells[k] = 42
    · have hd : ((cells[k].toNat : Int) == 42) = true := by rw [is42]; simp [hq]
      have HO2 := Lib.hid (show chOK l k 46 = false by rw [HO.out, hq]; rfl)
      have HT2 := Lib.hid (show chM l k 46 42 = [] by rw [HT.out, HO2.out]; rfl)
      clear hs hq HO HT
      go_enter Tryd.func34, Tryd.ntmps34
      go_wp2_with fail
      refine h1.mono ?_
      rintro e w1 ⟨rfl, hb⟩
      go_wp2_with fail
      refine (hcs _ hl).mono ?_
      rintro e w1' ⟨rfl, rfl⟩
      go_wp2_with fail
      go_ret2
      exact ⟨by rw [HO2.out, HT2.out]; rfl, hb⟩
    · have hd : ((cells[k].toNat : Int) == 42) = false := by rw [is42]; simp [hq]
      have hq2 : cells[k] = 46 := by rcases hs with h | h; exact h; exact absurd h hq
      have HO2 := Lib.hid (show chOK l k 46 = true by rw [HO.out, hq2]; rfl)
      have HT2 := Lib.hid (show chM l k 46 42 = textM (cells.set k 42) W H by rw [HT.out, HO2.out]; rfl)
      clear hs hq hq2 HO HT
      go_enter Tryd.func34, Tryd.ntmps34
      go_wp2_with fail
      refine h1.mono ?_
      rintro e w1 ⟨rfl, hb⟩
      go_wp2_with fail
      refine (hcs _ hl).mono ?_
      rintro e w1' ⟨rfl, rfl⟩
      go_wp2_with fail
      refine (hput _).mono ?_
      rintro e w2 ⟨rfl, hb2⟩
      go_wp2_with fail
      go_ret2
      exact ⟨by rw [HO2.out, HT2.out]; rfl, hb.trans (hb2.mono hb.size)⟩
end Go.Proofs.YtndmkbkmfonefaaDoor
