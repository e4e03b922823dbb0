/- A world for the witness whose three listed tables hold what the program's text lays, and what a row's list says of the table of lowest bits. -/
import Derived.Test.YthlbplmghjaeoaaDoorFin
import Derived.Test.YthlbplmghjaeoaaDoorC7
import Derived.Lib.LaidTab
import Derived.LaidSub
namespace Go.Proofs.YthlbplmghjaeoaaDoor
open Go.RowKit Go.WideShapes Go.ChangeShapes

noncomputable def laidWorld3 (os : Os) : World := { laidWorld os with heap := (laidWorld os).heap.modify 0 (layCells Lib.deBruijn64tab) }

theorem plain_of_laidH {P : Program} {w : World} {l : List (String × DataW Unit)} (hn : (l.all fun x => x.2.handleName?.isNone) = true) (h : laidMetH P l w) : laidMet P l w := by
  have e : (l.filter fun x => x.2.handleName?.isNone) = l := List.filter_eq_self.2 (List.all_eq_true.1 hn)
  have := (laidMetH_iff.1 h).1
  rw [e] at this
  exact this
theorem tab_of_laid {W : World} (h : laidMetH Tryd.prog [("math/bits.deBruijn64tab", Rows.laid_math_bits_deBruijn64tab), ("unicode/utf8.acceptRanges", Rows.laid_unicode_utf8_acceptRanges), ("unicode/utf8.first", Rows.laid_unicode_utf8_first)] W) : HasTab W := by
  have h1 := plain_of_laidH (by kernel_rfl) h
  have e : (Rows.laid_math_bits_deBruijn64tab : DataW Unit) = Lib.tabData .u8 (Lib.deBruijn64tab.map Int.ofNat) := by kernel_rfl
  rw [e] at h1
  have ht := Lib.tabIs_of_head (g := 0) (t := 139) (e := 5) (n := 64) (by kernel_rfl) (by kernel_rfl) Tryd.underlying139 Tryd.underlying5 (by kernel_rfl) (by kernel_rfl) h1
  intro j hj
  have hc := ht.cell (g := 0) (by kernel_rfl) j (by rw [List.length_map]; exact hj)
  rw [hc]
  simp only [List.getD, List.getElem?_map, List.getElem?_eq_getElem hj, Option.map_some, Option.getD_some]
  rfl
theorem libOpen {W : World} (hS : W.ShapedOpen Tryd.prog) (h : laidMetH Tryd.prog [("math/bits.deBruijn64tab", Rows.laid_math_bits_deBruijn64tab), ("unicode/utf8.acceptRanges", Rows.laid_unicode_utf8_acceptRanges), ("unicode/utf8.first", Rows.laid_unicode_utf8_first)] W) : HasLib W := ⟨maxOpen hS, tab_of_laid h⟩
end Go.Proofs.YthlbplmghjaeoaaDoor
