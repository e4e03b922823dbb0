/- The laws of SizeOf and CountMines, walked. -/
import Derived.Test.YtndmkbkmfonefaaDoorI5
import Derived.Outline
namespace Go.Proofs.YtndmkbkmfonefaaDoor
open Go.RowKit

set_option maxRecDepth 100000 in
set_option maxHeartbeats 800000 in
theorem law_SizeOf (l : List UInt8) (w : World) (hM : HasMax w) (hs : l.length ≤ 9223372036854775807) :
    Calls Tryd.prog 4 #[.string ⟨l.toArray⟩] w fun e w' => e = .returned (.bool true) ∧ Below w.heap.size w w' := by
  by_cases hl : l.length ≤ 1048576
  · have d1 : (((gW l : Nat) : Int) != ((gW l : Nat) : Int)) = false := by simp
    have d2 : (((gH l : Nat) : Int) != ((gH l : Nat) : Int)) = false := by simp
    have d3 : (boGoodM l != boGoodM l) = false := by simp
    go_enter Tryd.func4, Tryd.ntmps4
    go_wp2_with fail
    refine (sSizeOf_any l _ hl).mono ?_
    rintro e w1 ⟨rfl, hb⟩
    go_wp2_with fail
    refine (iSizeOf_any l _ (hM.later hb) hl).mono ?_
    rintro e w2 ⟨rfl, hb2⟩
    go_wp2_with fail
    go_ret
    exact ⟨rfl, hb.trans (hb2.mono hb.size)⟩
  · have hl' : 1048576 < l.length := by omega
    clear hl
    go_enter Tryd.func4, Tryd.ntmps4
    go_wp2_with fail
    go_ret
    exact ⟨rfl, Below.refl _ _⟩

set_option maxRecDepth 100000 in
set_option maxHeartbeats 800000 in
theorem law_CountMines (l : List UInt8) (w : World) (hM : HasMax w) (hs : l.length ≤ 9223372036854775807) :
    Calls Tryd.prog 5 #[.string ⟨l.toArray⟩] w fun e w' => e = .returned (.bool true) ∧ Below w.heap.size w w' := by
  by_cases hl : l.length ≤ 1048576
  · have d1 : (((gC l : Nat) : Int) != ((gC l : Nat) : Int)) = false := by simp
    have d3 : (boGoodM l != boGoodM l) = false := by simp
    go_enter Tryd.func5, Tryd.ntmps5
    go_wp2_with fail
    refine (sCountMines_any l _ hl).mono ?_
    rintro e w1 ⟨rfl, hb⟩
    go_wp2_with fail
    refine (iCountMines_any l _ (hM.later hb) hl).mono ?_
    rintro e w2 ⟨rfl, hb2⟩
    go_wp2_with fail
    go_ret
    exact ⟨rfl, hb.trans (hb2.mono hb.size)⟩
  · have hl' : 1048576 < l.length := by omega
    clear hl
    go_enter Tryd.func5, Tryd.ntmps5
    go_wp2_with fail
    go_ret
    exact ⟨rfl, Below.refl _ _⟩
end Go.Proofs.YtndmkbkmfonefaaDoor
