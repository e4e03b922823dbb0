/- Opening: all openings of a text, and how many there are, by the program and by the model. -/
import Derived.Test.YtndmkbkmfonefabDoorYE
import Derived.Outline
namespace Go.Proofs.YtndmkbkmfonefabDoor
open Go.RowKit

theorem gW_pos (l : List UInt8) : 0 < (gCells l).length → 1 ≤ gW l := by
  intro h
  rw [gCells_len] at h
  rcases Nat.eq_zero_or_pos (gW l) with h0 | h0
  · rw [h0] at h; simp at h
  · exact h0
theorem gCells_none {l : List UInt8} (h : boGoodM l = false) : gCells l = [] := by rw [gCells, if_neg (by rw [h]; decide)]

/-- The first zeros and the openings of a text. -/
def fstOf (l : List UInt8) : List Nat := firstsM (gCells l) (gW l)
def opsOf (l : List UInt8) : List (List Nat) := openingsM (gCells l) (gW l)
theorem fstOf_le (l : List UInt8) : (fstOf l).length ≤ 64 := Nat.le_trans (firstsM_le _ _) (gCells_le l)
theorem opsOf_length (l : List UInt8) : (opsOf l).length = (fstOf l).length := by rw [opsOf, openingsM, List.length_map]; rfl
theorem opsOf_row (l : List UInt8) : ∀ r ∈ opsOf l, r.length ≤ 64 := by
  intro r hr
  simp only [opsOf, openingsM, List.mem_map] at hr
  obtain ⟨z, _, rfl⟩ := hr
  exact Nat.le_trans (opM_le _ _ _) (gCells_le l)
theorem fstOf_none {l : List UInt8} (h : boGoodM l = false) : fstOf l = [] := by rw [fstOf, gCells_none h]; rfl
theorem opsOf_none {l : List UInt8} (h : boGoodM l = false) : opsOf l = [] := by rw [opsOf, gCells_none h]; rfl



set_option maxRecDepth 100000 in
set_option maxHeartbeats 800000 in
theorem iOpeningsOf_any (l : List UInt8) (w : World) (hM : HasMax w) (hl : l.length ≤ 1048576) :
    Calls Tryd.prog 38 #[.string ⟨l.toArray⟩] w fun e w' => ∃ a cap us, e = .returned (.tuple #[.slice a (opsOf l).length cap, .bool (boGoodM l)]) ∧ us.length = (opsOf l).length ∧
      Fam w' w.heap.size ((.slice a (opsOf l).length cap, 29, us) :: rowsF us (opsOf l)) ∧ Below w.heap.size w w' := by
  have hgl := gCells_le l
  have hop := fun (w : World) a cap (h : At w a (byts (gCells l))) => openings_any (gW l) (gH l) a (gCells l) cap w h hgl (gW_pos l)
  rw [show openingsM (gCells l) (gW l) = opsOf l from rfl] at hop
  have HOP := Lib.hid hop
  clear hop
  go_enter Tryd.func38, Tryd.ntmps38
  go_wp2_with fail
  refine (readBoard_any l _ hM hl).mono ?_
  rintro e w1 ⟨a, cap, rfl, hown, hb⟩
  have s1 := hb.size
  have hat : ∀ o, At (w1.alloc o) a (byts (gCells l)) := fun o => (hown.at).later rfl ((Below.refl _ _).alloc (Nat.le_refl _) _)
  go_wp2_with fail
  refine (HOP.out _ a cap (hat _)).mono ?_
  rintro e w2 ⟨v, us, rfl, hus, hF, hb2⟩
  obtain ⟨a1, cap1, hv⟩ := hF.head.shape
  rw [hus] at hv
  subst hv
  have HUS := Lib.hid hus
  clear hus
  go_wp2_with fail
  go_ret2
  exact ⟨a1, cap1, us, rfl, HUS.out, hF.mono (by simp; omega), (hb.alloc hb.size _).trans (hb2.mono (by simp; omega))⟩

set_option maxRecDepth 100000 in
set_option maxHeartbeats 800000 in
theorem sOpeningsOf_any (l : List UInt8) (w : World) (hl : l.length ≤ 1048576) :
    Calls Tryd.prog 37 #[.string ⟨l.toArray⟩] w fun e w' => ∃ a cap us, e = .returned (.tuple #[.slice a (opsOf l).length cap, .bool (boGoodM l)]) ∧ us.length = (opsOf l).length ∧
      Fam w' w.heap.size ((.slice a (opsOf l).length cap, 29, us) :: rowsF us (opsOf l)) ∧ Below w.heap.size w w' := by
  have hg0 := fun w => boGood_any l w hl
  by_cases hg : boGoodM l = true
  · have hB := Brd.of hg
    obtain ⟨g1, g2, g3⟩ := hB.grid
    have hall := fun w => opAll_any l _ _ _ w hl hB
    have he : openingsM (cellsM l) (headLen (splitB 47 l)) = opsOf l := by rw [opsOf, g3, g1]
    rw [he] at hall
    rw [hg] at hg0
    have HG := Lib.hid hg
    have HG0 := Lib.hid hg0
    have HALL := Lib.hid hall
    clear hg hg0 hall hB g1 g2 g3 he
    go_enter Tryd.func37, Tryd.ntmps37
    go_wp2_with fail
    refine (HG0.out _).mono ?_
    rintro e w1 ⟨rfl, hb⟩
    go_wp2_with fail
    refine (HALL.out _).mono ?_
    rintro e w2 ⟨v1, v2, us, rfl, hus, hF, hb2⟩
    obtain ⟨a1, cap1, hv⟩ := hF.head.shape
    rw [hus] at hv
    subst hv
    have HUS := Lib.hid hus
    clear hus
    go_wp2_with fail
    go_ret2
    exact ⟨a1, cap1, us, by rw [HG.out]; rfl, HUS.out, (hF.swap.tail).mono hb.size, hb.trans (hb2.mono hb.size)⟩
  · have hg' : boGoodM l = false := by simpa using hg
    have hN := Lib.hid (opsOf_none hg')
    rw [hg'] at hg0
    have HG := Lib.hid hg'
    have HG0 := Lib.hid hg0
    clear hg hg' hg0
    go_enter Tryd.func37, Tryd.ntmps37
    go_wp2_with fail
    refine (HG0.out _).mono ?_
    rintro e w1 ⟨rfl, hb⟩
    go_wp2_with fail
    go_ret2
    exact ⟨none, 0, [], by rw [HG.out, hN.out]; rfl, by rw [hN.out]; rfl, by rw [hN.out]; exact (Fam.empty _ _).nil, hb⟩
end Go.Proofs.YtndmkbkmfonefabDoor
