/- Two boards beside each other: the program, where they don't fit; and in any case. -/
import Derived.Test.YtndmkbkmfonefabDoorYT
import Derived.Outline
namespace Go.Proofs.YtndmkbkmfonefabDoor
open Go.RowKit

set_option maxRecDepth 100000 in
set_option maxHeartbeats 1600000 in
theorem iBeside_no (l r : List UInt8) (w : World) (hM : HasMax w) (hl : l.length ≤ 1048576) (hr : r.length ≤ 1048576) (hno : ¬ (boGoodM l = true ∧ boGoodM r = true ∧ gH l = gH r ∧ gW l + gW r ≤ 8)) :
    Calls Tryd.prog 22 #[.string ⟨l.toArray⟩, .string ⟨r.toArray⟩] w fun e w' => e = .returned (.tuple #[.string ⟨(besM l r).toArray⟩, .bool (besOK l r)]) ∧ Below w.heap.size w w' := by
  obtain ⟨b1, b2⟩ := bes_no hno
  have B1 := Lib.hid b1
  have B2 := Lib.hid b2
  have qa := readBoard_any l w hM hl
  have qb := fun w' h => readBoard_any r w' h hr
  have wa8 := gW_le l
  have wb8 := gW_le r
  have ha8 := gH_le l
  have hb8 := gH_le r
  have key : (boGoodM l = false) ∨ (boGoodM l = true ∧ boGoodM r = false) ∨ (boGoodM l = true ∧ boGoodM r = true ∧ ¬ gH l = gH r) ∨ (boGoodM l = true ∧ boGoodM r = true ∧ gH l = gH r ∧ 8 < gW l + gW r) := by
    by_cases h1 : boGoodM l = true
    · by_cases h2 : boGoodM r = true
      · by_cases h3 : gH l = gH r
        · exact .inr (.inr (.inr ⟨h1, h2, h3, by
            by_cases h4 : 8 < gW l + gW r
            · exact h4
            · exact absurd ⟨h1, h2, h3, by omega⟩ hno⟩))
        · exact .inr (.inr (.inl ⟨h1, h2, h3⟩))
      · exact .inr (.inl ⟨h1, by simpa using h2⟩)
    · exact .inl (by simpa using h1)
  clear hno b1 b2
  have hz := isSize_any (gW l + gW r) (gH l)
  have hcs : ((gW l + gW r : Nat) : Int) = (gW l : Int) + (gW r : Int) := by simp
  rw [hcs] at hz
  have hso : 8 < gW l + gW r → sizeOK (gW l + gW r) (gH l) = false := fun h => by simp [sizeOK]; omega
  clear hcs
  generalize gW l = Wa at *
  generalize gH l = Ha at *
  generalize gCells l = ca at *
  generalize gW r = Wb at *
  generalize gH r = Hb at *
  generalize gCells r = cb at *
  generalize boGoodM l = ga at *
  generalize boGoodM r = gb at *
  go_enter Tryd.func22, Tryd.ntmps22
  go_wp2_with fail
  refine qa.mono ?_
  rintro e w1 ⟨a, cap, rfl, hown, hb⟩
  go_wp2_with fail
  have hb' : Below w.heap.size w (w1.alloc (.cells #[.int .i64 Wa, .int .i64 Ha, .slice a ca.length cap, .bool false] 50)) := hb.alloc hb.size _
  have hG1 : (w1.alloc (.cells #[.int .i64 Wa, .int .i64 Ha, .slice a ca.length cap, .bool false] 50)).heap[w1.heap.size]? = some (.cells #[.int .i64 Wa, .int .i64 Ha, .slice a ca.length cap, .bool false] 50 (0, 0)) := heap_alloc_new w1 _
  have hs1 : (w1.alloc (.cells #[.int .i64 Wa, .int .i64 Ha, .slice a ca.length cap, .bool false] 50)).heap.size = w1.heap.size + 1 := by simp
  have hn1 := hb.size
  generalize w1.heap.size = n1 at *
  generalize w1.alloc (.cells #[.int .i64 Wa, .int .i64 Ha, .slice a ca.length cap, .bool false] 50) = w1' at *
  refine (qb _ (hM.later hb')).mono ?_
  rintro e w2 ⟨a2, cap2, rfl, hown2, hb2⟩
  go_upto_region 3 with fail
  have hn2 := hb2.size
  have hGa := (((Below.refl w2.heap.size w2).alloc (Nat.le_refl _) (.cells #[.int .i64 Wb, .int .i64 Hb, .slice a2 cb.length cap2, .bool false] 50)).block n1 (by omega)).trans ((hb2.block n1 (by omega)).trans hG1)
  have hGb : (w2.alloc (.cells #[.int .i64 Wb, .int .i64 Hb, .slice a2 cb.length cap2, .bool false] 50)).heap[w2.heap.size]? = some (.cells #[.int .i64 Wb, .int .i64 Hb, .slice a2 cb.length cap2, .bool false] 50 (0, 0)) := heap_alloc_new w2 _
  have hb2' : Below w1'.heap.size w1' (w2.alloc (.cells #[.int .i64 Wb, .int .i64 Hb, .slice a2 cb.length cap2, .bool false] 50)) := hb2.alloc hb2.size _
  generalize w2.heap.size = n2 at *
  generalize w2.alloc (.cells #[.int .i64 Wb, .int .i64 Hb, .slice a2 cb.length cap2, .bool false] 50) = w3 at *
  have hb3 : Below w.heap.size w w3 := hb'.trans (hb2'.mono (by omega))
  have hf0 := cell_of_block hGa 0
  have hf1 := cell_of_block hGa 1
  have hk0 := cell_of_block hGb 0
  have hk1 := cell_of_block hGb 1
  simp at hf0 hf1 hk0 hk1
  clear hown hown2 hb hb' hb2 hb2' qa qb hGa hGb hG1
  rcases key with rfl | ⟨rfl, rfl⟩ | ⟨rfl, rfl, hne⟩ | ⟨rfl, rfl, rfl, h8⟩
  · go_wp2_with fail
    go_ret2
    exact ⟨by rw [B1.out, B2.out]; rfl, hb3⟩
  · go_wp2_with fail
    go_ret2
    exact ⟨by rw [B1.out, B2.out]; rfl, hb3⟩
  · have hd : ((Ha : Int) != (Hb : Int)) = true := by simp; omega
    go_wp2_with fail
    go_ret2
    exact ⟨by rw [B1.out, B2.out]; rfl, hb3⟩
  · have hd : ((Ha : Int) != (Ha : Int)) = false := by simp
    rw [hso h8] at hz
    go_wp2_with fail
    refine (hz _).mono ?_
    rintro e w3' ⟨rfl, rfl⟩
    go_wp2_with fail
    go_ret2
    exact ⟨by rw [B1.out, B2.out]; rfl, hb3⟩

theorem iBesideBoard_any (l r : List UInt8) (w : World) (hM : HasMax w) (hl : l.length ≤ 1048576) (hr : r.length ≤ 1048576) :
    Calls Tryd.prog 22 #[.string ⟨l.toArray⟩, .string ⟨r.toArray⟩] w fun e w' => e = .returned (.tuple #[.string ⟨(besM l r).toArray⟩, .bool (besOK l r)]) ∧ Below w.heap.size w w' := by
  by_cases h : boGoodM l = true ∧ boGoodM r = true ∧ gH l = gH r ∧ gW l + gW r ≤ 8
  · exact iBeside_yes l r w hM hl hr h.1 h.2.1 h.2.2.1 h.2.2.2
  · exact iBeside_no l r w hM hl hr h
end Go.Proofs.YtndmkbkmfonefabDoor
