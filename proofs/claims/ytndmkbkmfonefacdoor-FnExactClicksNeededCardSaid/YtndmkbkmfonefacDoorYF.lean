/- Opening: all openings of a text, and how many there are, by the program and by the model. -/
import Derived.Test.YtndmkbkmfonefacDoorGYB
import Derived.Outline
namespace Go.Proofs.YtndmkbkmfonefacDoor
open Go.RowKit

theorem gW_pos (l : List UInt8) : 0 < (gCells l).length → 1 ≤ gW l := by
  intro h
  rw [gCells_len] at h
  rcases Nat.eq_zero_or_pos (gW l) with h0 | h0
  · rw [h0] at h; simp at h
  · exact h0
theorem gCells_none {l : List UInt8} (h : boGoodM l = false) : gCells l = [] := by rw [gCells, if_neg (by rw [h]; decide)]

/-- The first zeros and the openings of a text. -/
def fstOf (l : List UInt8) : List Nat := firstsM (gCells l) (gW l)
def opsOf (l : List UInt8) : List (List Nat) := openingsM (gCells l) (gW l)
theorem fstOf_le (l : List UInt8) : (fstOf l).length ≤ 64 := Nat.le_trans (firstsM_le _ _) (gCells_le l)
theorem opsOf_length (l : List UInt8) : (opsOf l).length = (fstOf l).length := by rw [opsOf, openingsM, List.length_map]; rfl
theorem opsOf_row (l : List UInt8) : ∀ r ∈ opsOf l, r.length ≤ 64 := by
  intro r hr
  simp only [opsOf, openingsM, List.mem_map] at hr
  obtain ⟨z, _, rfl⟩ := hr
  exact Nat.le_trans (opM_le _ _ _) (gCells_le l)
theorem fstOf_none {l : List UInt8} (h : boGoodM l = false) : fstOf l = [] := by rw [fstOf, gCells_none h]; rfl
theorem opsOf_none {l : List UInt8} (h : boGoodM l = false) : opsOf l = [] := by rw [opsOf, gCells_none h]; rfl

set_option maxRecDepth 100000 in
set_option maxHeartbeats 800000 in
theorem iCountOpenings_any (l : List UInt8) (w : World) (hM : HasMax w) (hl : l.length ≤ 1048576) :
    Calls Tryd.prog 14 #[.string ⟨l.toArray⟩] w fun e w' => e = .returned (.tuple #[.int .i64 (((fstOf l).length : Nat) : Int), .bool (boGoodM l)]) ∧ Below w.heap.size w w' := by
  have hgl := gCells_le l
  have hfz := fun (w : World) a cap (h : At w a (byts (gCells l))) => firstZeros_any (gW l) (gH l) a (gCells l) cap w h hgl (gW_pos l)
  have HFZ := Lib.hid hfz
  have HFO : Hid (fstOf l = firstsM (gCells l) (gW l)) := rfl
  clear hfz
  go_enter Tryd.func14, Tryd.ntmps14
  go_wp2_with fail
  refine (readBoard_any l _ hM hl).mono ?_
  rintro e w1 ⟨a, cap, rfl, hown, hb⟩
  have hat : ∀ o, At (w1.alloc o) a (byts (gCells l)) := fun o => (hown.at).later rfl ((Below.refl _ _).alloc (Nat.le_refl _) _)
  go_wp2_with fail
  refine (HFZ.out _ a cap (hat _)).mono ?_
  rintro e w2 ⟨a', cap', rfl, hown2, hb2⟩
  go_wp2_with fail
  go_ret2
  exact ⟨by rw [HFO.out]; rfl, (hb.alloc hb.size _).trans (hb2.mono (by have := hb.size; simp; omega))⟩

set_option maxRecDepth 100000 in
set_option maxHeartbeats 800000 in
theorem sCountOpenings_any (l : List UInt8) (w : World) (hl : l.length ≤ 1048576) :
    Calls Tryd.prog 13 #[.string ⟨l.toArray⟩] w fun e w' => e = .returned (.tuple #[.int .i64 (((fstOf l).length : Nat) : Int), .bool (boGoodM l)]) ∧ Below w.heap.size w w' := by
  have hg0 := fun w => boGood_any l w hl
  by_cases hg : boGoodM l = true
  · have hB := Brd.of hg
    obtain ⟨g1, g2, g3⟩ := hB.grid
    have hall := fun w => opAll_any l _ _ _ w hl hB
    have hlen : (openingsM (cellsM l) (headLen (splitB 47 l))).length = (fstOf l).length := by
      rw [← opsOf_length, opsOf, g3, g1]
    have hle := fstOf_le l
    rw [hlen] at hall
    rw [hg] at hg0
    have HG := Lib.hid hg
    have HG0 := Lib.hid hg0
    have HALL := Lib.hid hall
    clear hg hg0 hall hB g1 g2 g3 hlen
    go_enter Tryd.func13, Tryd.ntmps13
    go_wp2_with fail
    refine (HG0.out _).mono ?_
    rintro e w1 ⟨rfl, hb⟩
    go_wp2_with fail
    refine (HALL.out _).mono ?_
    rintro e w2 ⟨v1, v2, us, rfl, hus, hF, hb2⟩
    obtain ⟨a1, cap1, hv⟩ := hF.head.shape
    rw [hus] at hv
    subst hv
    clear hus hF
    go_wp2_with fail
    go_ret2
    exact ⟨by rw [HG.out]; rfl, hb.trans (hb2.mono hb.size)⟩
  · have hg' : boGoodM l = false := by simpa using hg
    have hN := Lib.hid (fstOf_none hg')
    rw [hg'] at hg0
    have HG := Lib.hid hg'
    have HG0 := Lib.hid hg0
    clear hg hg' hg0
    go_enter Tryd.func13, Tryd.ntmps13
    go_wp2_with fail
    refine (HG0.out _).mono ?_
    rintro e w1 ⟨rfl, hb⟩
    go_wp2_with fail
    go_ret2
    exact ⟨by rw [HG.out, hN.out]; rfl, hb⟩


end Go.Proofs.YtndmkbkmfonefacDoor
