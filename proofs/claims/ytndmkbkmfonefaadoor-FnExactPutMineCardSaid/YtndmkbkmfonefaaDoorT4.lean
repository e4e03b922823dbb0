/- Walks: another sign in a cell, by the program and by the model. -/
import Derived.Test.YtndmkbkmfonefaaDoorT3
import Derived.Outline
namespace Go.Proofs.YtndmkbkmfonefaaDoor
open Go.RowKit

/-- The text with another sign in a cell: none if there is no such cell, or if its sign is another one than before. -/
def chOK (l : List UInt8) (c : Int) (b : UInt8) : Bool := cellOK l c && ((gCells l).getD c.toNat 0 == b)
def chM (l : List UInt8) (c : Int) (b x : UInt8) : List UInt8 := if chOK l c b = true then textM ((gCells l).set c.toNat x) (gW l) (gH l) else []
theorem chM_len (l : List UInt8) (c : Int) (b x : UInt8) : (chM l c b x).length ≤ 1048576 := by
  unfold chM
  split
  · have := textM_le ((gCells l).set c.toNat x) (gW l) (gH l) (gW_le l) (gH_le l)
    omega
  · simp

set_option maxRecDepth 100000 in
set_option maxHeartbeats 1600000 in
theorem changeSign_any (l : List UInt8) (c : Int) (b x : UInt8) (bi xi : Int) (hbi : bi = (b.toNat : Int)) (hxi : xi = (x.toNat : Int)) (w : World) (hM : HasMax w) (hl : l.length ≤ 1048576) :
    Calls Tryd.prog 56 #[.string ⟨l.toArray⟩, .int .i64 c, .int .u8 bi, .int .u8 xi] w fun e w' => e = .returned (.tuple #[.string ⟨(chM l c b x).toArray⟩, .bool (chOK l c b)]) ∧ Below w.heap.size w w' := by
  subst hbi
  subst hxi
  cases hc : cellOK l c with
  | false =>
    have HO := Lib.hid (show chOK l c b = false by rw [chOK, hc]; rfl)
    have HT := Lib.hid (show chM l c b x = [] by rw [chM, HO.out]; rfl)
    go_enter Tryd.func56, Tryd.ntmps56
    go_wp2_with fail
    refine (readWith_no l c _ hM hl hc).mono ?_
    rintro e w1 ⟨rfl, hb⟩
    clear hc
    unfold NoGrid
    go_wp2_with fail
    go_ret2
    exact ⟨by rw [HO.out, HT.out]; rfl, hb.alloc hb.size _⟩
  | true =>
    have hgs := gSize l
    have hgn := gCells_len l
    have h64 := gCells_le l
    obtain ⟨hg, k, hck, hk⟩ := cellOK_yes hc
    have hgc : gCells l = cellsM l := by rw [gCells, if_pos hg]
    rw [← hgc] at hk
    have HO := Lib.hid (show chOK l c b = ((gCells l)[k] == b) by rw [chOK, hc, hck]; simp [List.getD, hk])
    have HT := Lib.hid (show chM l c b x = if chOK l c b = true then textM ((gCells l).set k x) (gW l) (gH l) else [] by rw [chM, hck]; rfl)
    clear hg hgc
    have hr := readWith_yes l c _ (hM) hl hc
    clear hc
    subst hck
    go_enter Tryd.func56, Tryd.ntmps56
    go_wp2_with fail
    refine hr.mono ?_
    rintro e w1 ⟨a, cap, rfl, hown, hb⟩
    have hcap := hown.cap
    have hs1 := hb.size
    obtain ⟨g, rfl, hg1, hg2⟩ := hown.zero (by simp; omega)
    obtain ⟨g', o', he, hcell⟩ := byts_at hown.at k hk
    simp only [Option.some.injEq, Addr.mk.injEq, and_true] at he
    obtain ⟨rfl, rfl⟩ := he
    rw [Nat.zero_add] at hcell
    by_cases hq : (gCells l)[k] = b
    · have hd : (((gCells l)[k].toNat : Int) != (b.toNat : Int)) = false := by simp only [bne]; rw [u8_eq_int]; simp [hq]
      have HQ := Lib.hid hq
      clear hq
      have hcell1 : ∀ o, (w1.alloc o).cell? ⟨g, k, none⟩ = some (.int .u8 ((gCells l)[k].toNat : Int)) := fun o => by rw [cell_new w1 o g hg2]; exact hcell
      have hfr := fun o => (hown.later ((Below.refl _ w1).alloc (Nat.le_refl _) o)).froz k
      have hst0 := hown.put k (.int .u8 (x.toNat : Int))
      have hst := fun o => hst0.later ((Below.refl _ _).alloc (Nat.le_refl _) o)
      have hal := fun o => (hb.trans ((Below.set (w := w1) (g := g) k (.int .u8 (x.toNat : Int))).mono hg1)).alloc (by simp [World.setCell]; omega) o
      simp only [byts_set] at hst
      have ht := fun o => text_any (gW l) (gH l) _ ((gCells l).set k x) cap _ (hst o).at (by simpa using hcap) (by simpa using hgn) hgs
      simp only [List.length_set] at ht
      clear hst hst0
      have HO2 := Lib.hid (show chOK l k b = true by rw [HO.out]; simpa using HQ.out)
      have HT2 := Lib.hid (show chM l k b x = textM ((gCells l).set k x) (gW l) (gH l) by rw [HT.out, HO2.out]; rfl)
      clear hgn HT HO
      generalize gCells l = cells at *
      generalize gW l = W at *
      generalize gH l = H at *
      clear hr
      go_wp2_with fail
      refine (ht _).mono ?_
      rintro e w5 ⟨rfl, hb5⟩
      have hb6 := (hal _).trans (hb5.mono (by simp [World.setCell]; omega))
      go_wp2_with fail
      go_ret2
      exact ⟨by rw [HO2.out, HT2.out]; rfl, hb6⟩
    · have hd : (((gCells l)[k].toNat : Int) != (b.toNat : Int)) = true := by simp only [bne]; rw [u8_eq_int]; simp [hq]
      have HQ := Lib.hid hq
      clear hq
      have hcell1 : ∀ o, (w1.alloc o).cell? ⟨g, k, none⟩ = some (.int .u8 ((gCells l)[k].toNat : Int)) := fun o => by rw [cell_new w1 o g hg2]; exact hcell
      have HO2 := Lib.hid (show chOK l k b = false by rw [HO.out]; simpa using HQ.out)
      have HT2 := Lib.hid (show chM l k b x = [] by rw [HT.out, HO2.out]; rfl)
      go_wp2_with fail
      go_ret2
      exact ⟨by rw [HO2.out, HT2.out]; rfl, hb.alloc hb.size _⟩

set_option maxRecDepth 100000 in
theorem iPutMine_any (l : List UInt8) (c : Int) (w : World) (hM : HasMax w) (hl : l.length ≤ 1048576) :
    Calls Tryd.prog 35 #[.string ⟨l.toArray⟩, .int .i64 c] w fun e w' => e = .returned (.tuple #[.string ⟨(chM l c 46 42).toArray⟩, .bool (chOK l c 46)]) ∧ Below w.heap.size w w' := by
  go_enter Tryd.func35, Tryd.ntmps35
  go_wp2_with fail
  refine (changeSign_any l c 46 42 _ _ rfl rfl w hM hl).mono ?_
  rintro e w1 ⟨rfl, hb⟩
  go_wp2_with fail
  go_ret2
  exact ⟨rfl, hb⟩

end Go.Proofs.YtndmkbkmfonefaaDoor
