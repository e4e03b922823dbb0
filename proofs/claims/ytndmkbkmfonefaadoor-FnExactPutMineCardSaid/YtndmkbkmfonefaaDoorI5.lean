/- Walks: how many mines, and which, as the program tells them. -/
import Derived.Test.YtndmkbkmfonefaaDoorI4
namespace Go.Proofs.YtndmkbkmfonefaaDoor
open Go.RowKit

theorem placesGo_count (b : UInt8) : ∀ (l : List UInt8) (i : Nat), (placesGo b i l).length = l.count b
  | [], _ => by simp [placesGo]
  | c :: r, i => by
    unfold placesGo
    by_cases h : c = b
    · rw [if_pos h, List.length_cons, placesGo_count b r, h, List.count_cons_self]
    · rw [if_neg h, placesGo_count b r, List.count_cons_of_ne h]
theorem gC_eq (l : List UInt8) : gC l = (places 42 (gCells l)).length := by
  unfold gC gCells
  by_cases h : boGoodM l = true
  · rw [if_pos h, if_pos h, places, places, placesGo_count, placesGo_count, cellsM, List.count_filter (by decide)]
  · rw [if_neg h, if_neg h]; rfl
theorem minesM_eq (l : List UInt8) : minesM l = places 42 (gCells l) := by
  unfold minesM gCells
  by_cases h : boGoodM l = true
  · rw [if_pos h, if_pos h]
  · rw [if_neg h, if_neg h]; rfl

theorem minesM_len (l : List UInt8) : (minesM l).length ≤ 1048576 := by
  rw [minesM_eq]
  exact Nat.le_trans (places_le _ _) (Nat.le_trans (gCells_le l) (by decide))

set_option maxRecDepth 100000 in
theorem iCountMines_any (l : List UInt8) (w : World) (hM : HasMax w) (hl : l.length ≤ 1048576) :
    Calls Tryd.prog 18 #[.string ⟨l.toArray⟩] w fun e w' => e = .returned (.tuple #[.int .i64 (gC l), .bool (boGoodM l)]) ∧ Below w.heap.size w w' := by
  have hgl := gCells_le l
  have hG := Lib.hid (gC_eq l)
  go_enter Tryd.func18, Tryd.ntmps18
  go_wp2_with fail
  refine (readBoard_any l _ hM hl).mono ?_
  rintro e w1 ⟨a, cap, rfl, hown, hb⟩
  have hat : ∀ o, At (w1.alloc o) a (byts (gCells l)) := fun o => (hown.at).later rfl ((Below.refl _ _).alloc (Nat.le_refl _) _)
  go_wp2_with fail
  refine (mines_any _ _ _ _ _ _ (hat _) hgl).mono ?_
  rintro e w2 ⟨a', cap', rfl, hown2, hb2⟩
  go_wp2_with fail
  go_ret2
  exact ⟨by rw [hG.out]; rfl, (hb.alloc hb.size _).trans (hb2.mono (by have := hb.size; simp; omega))⟩

set_option maxRecDepth 100000 in
theorem iMinesOf_any (l : List UInt8) (w : World) (hM : HasMax w) (hl : l.length ≤ 1048576) :
    Calls Tryd.prog 20 #[.string ⟨l.toArray⟩] w fun e w' => ∃ a cap, e = .returned (.tuple #[.slice a (minesM l).length cap, .bool (boGoodM l)]) ∧ Owns w' w.heap.size 3 (.slice a (minesM l).length cap) (nats (minesM l)) ∧ Below w.heap.size w w' := by
  have hgl := gCells_le l
  have hG := Lib.hid (minesM_eq l)
  go_enter Tryd.func20, Tryd.ntmps20
  go_wp2_with fail
  refine (readBoard_any l _ hM hl).mono ?_
  rintro e w1 ⟨a, cap, rfl, hown, hb⟩
  have hat : ∀ o, At (w1.alloc o) a (byts (gCells l)) := fun o => (hown.at).later rfl ((Below.refl _ _).alloc (Nat.le_refl _) _)
  go_wp2_with fail
  refine (mines_any _ _ _ _ _ _ (hat _) hgl).mono ?_
  rintro e w2 ⟨a', cap', rfl, hown2, hb2⟩
  go_wp2_with fail
  go_ret2
  refine ⟨a', cap', by rw [hG.out]; rfl, by rw [hG.out]; exact hown2.mono (by have := hb.size; simp; omega), (hb.alloc hb.size _).trans (hb2.mono (by have := hb.size; simp; omega))⟩
end Go.Proofs.YtndmkbkmfonefaaDoor
