/-
  NARROWER THAN 'FOR EVERY INPUT', by the rows' own cells (each row's printed sentence says how): FnExactCountOpenings: laid · FnExactEdgeOfOpening: laid · FnExactCellsAlone: laid · FnExactFewestClicks: laid · FnExactFirstClicks: laid · FnExactLargestOpening: laid · FnExactBestClicks: laid · FnExactOpeningsWith: laid · FnExactSharedCells: laid · FnExactClicksNeeded: laid.
  DERIVED. THE GIVEN ROWS OF THIS SEAT. 10 by the template 'for every input the law returns true; each argument reads behind the call as it read before'; 0 by the template 'total and deterministic' (their statements: YtndmkbkmfonefacDoorTotals.lean).
  GIVEN WITH THE SEED: the statements are not yours to turn. If you find one false, say at which input.
  Laid BY PROGRAM, IN A SANDBOX (cutbox-rows.mjs): the forced cells as the released guide's own fill.sh prints them over the translation 91e3fe9e19bdcc4e… (all of the seat's roots in one cut). By AI agents, Wed Nov 11 2026. No macro, syntax, notation, axiom, sorry.
-/
import Derived.Test.YtndmkbkmfonefacDoorChecked
import GoSem.PinnedTables
import GoSem.Claim
import GoSem.ClaimJoined
import GoSem.ClaimMapViews
import Derived.JoinedTies
import Derived.KernelRfl
namespace Go.Proofs.YtndmkbkmfonefacDoor
/- THE CELL 'sum', in the pinned program and in every row, IS THE sha256 OF THE DUMP (.gsa) THAT YtndmkbkmfonefacDoorProg.lean LOADS. Nothing in Lean hashes anything: it is a label: what it is worth is what the hold of that sum in a sandbox is worth. -/
noncomputable def Tryd.pinned : Pinned := { name := "ytndmkbkmfonefacdoor", sum := "91e3fe9e19bdcc4e81fca4bd28998a5c8691750024b1f9526c512bbd2711e44a", checked := Tryd.checked }
namespace Rows
def none {H : Type} : Left H := { results := [], args := [] }

/- WHAT THE LISTED PACKAGE-LEVEL VARIABLES READ AS WHEN THE CALL BEGINS. Each datum BY PROGRAM (the guide's laid-datum.mjs) off the statement by which the dump's own 'gosem.cut.vars' lays the variable. In a bare row this is a premise. The card (YtndmkbkmfonefacDoorCards.lean) ties it to the program's text. -/
def laid_unicode_utf8_acceptRanges {H : Type} : DataW H := .agg [.agg [.lit (.int .u8 128), .lit (.int .u8 191)], .agg [.lit (.int .u8 160), .lit (.int .u8 191)], .agg [.lit (.int .u8 128), .lit (.int .u8 159)], .agg [.lit (.int .u8 144), .lit (.int .u8 191)], .agg [.lit (.int .u8 128), .lit (.int .u8 143)], .agg [.lit (.int .u8 0), .lit (.int .u8 0)], .agg [.lit (.int .u8 0), .lit (.int .u8 0)], .agg [.lit (.int .u8 0), .lit (.int .u8 0)], .agg [.lit (.int .u8 0), .lit (.int .u8 0)], .agg [.lit (.int .u8 0), .lit (.int .u8 0)], .agg [.lit (.int .u8 0), .lit (.int .u8 0)], .agg [.lit (.int .u8 0), .lit (.int .u8 0)], .agg [.lit (.int .u8 0), .lit (.int .u8 0)], .agg [.lit (.int .u8 0), .lit (.int .u8 0)], .agg [.lit (.int .u8 0), .lit (.int .u8 0)], .agg [.lit (.int .u8 0), .lit (.int .u8 0)]]
/-- One of Go's own tables, pinned by name: the form's constant. -/
def laid_unicode_utf8_first : DataW Unit := Go.Pinned.utf8First

/-- 'laws.FnExactCountOpenings': WHATEVER THE INPUT: true; the input reads as it did. -/
def fnExactCountOpeningsSpec : ChangeSpec := { name := "fnExactCountOpenings", fn := fun _ => fun
  | [d] => { results := [.lit (.bool true)], args := [d] }
  | _ => none }
def fnExactCountOpeningsRow : OpenClaim := { program := "ytndmkbkmfonefacdoor", sum := "91e3fe9e19bdcc4e81fca4bd28998a5c8691750024b1f9526c512bbd2711e44a", func := "loop.example/g01294/laws.FnExactCountOpenings", spec := "fnExactCountOpenings", inPlace := ["internal/bytealg.CountString", "internal/bytealg.IndexByteString", "internal/bytealg.IndexString"], unfollowed := true, recurses := true, named := ["unicode/utf8.first", "unicode/utf8.acceptRanges", "internal/bytealg.MaxLen"], apart := false, laid := [("unicode/utf8.acceptRanges", laid_unicode_utf8_acceptRanges), ("unicode/utf8.first", laid_unicode_utf8_first)] }
def FnExactCountOpeningsSaid : Prop := fnExactCountOpeningsRow.holds Tryd.pinned (OpenSpec.ofChange fnExactCountOpeningsSpec)

/-- ITS FALSE NEIGHBOUR: 'it returns false'. Refute it at one input. -/
def fnExactCountOpeningsWrong : ChangeSpec := { name := "fnExactCountOpenings", fn := fun _ => fun
  | [d] => { results := [.lit (.bool false)], args := [d] }
  | _ => none }
def FnExactCountOpeningsWrongFalsely : Prop := fnExactCountOpeningsRow.holds Tryd.pinned (OpenSpec.ofChange fnExactCountOpeningsWrong)

/-- 'laws.FnExactEdgeOfOpening': WHATEVER THE INPUT: true; the input reads as it did. -/
def fnExactEdgeOfOpeningSpec : ChangeSpec := { name := "fnExactEdgeOfOpening", fn := fun _ => fun
  | [d1, d2] => { results := [.lit (.bool true)], args := [d1, d2] }
  | _ => none }
def fnExactEdgeOfOpeningRow : OpenClaim := { program := "ytndmkbkmfonefacdoor", sum := "91e3fe9e19bdcc4e81fca4bd28998a5c8691750024b1f9526c512bbd2711e44a", func := "loop.example/g01294/laws.FnExactEdgeOfOpening", spec := "fnExactEdgeOfOpening", inPlace := ["internal/bytealg.CountString", "internal/bytealg.IndexByteString", "internal/bytealg.IndexString"], unfollowed := true, recurses := true, named := ["unicode/utf8.first", "unicode/utf8.acceptRanges", "internal/bytealg.MaxLen"], apart := false, laid := [("unicode/utf8.acceptRanges", laid_unicode_utf8_acceptRanges), ("unicode/utf8.first", laid_unicode_utf8_first)] }
def FnExactEdgeOfOpeningSaid : Prop := fnExactEdgeOfOpeningRow.holds Tryd.pinned (OpenSpec.ofChange fnExactEdgeOfOpeningSpec)

/-- ITS FALSE NEIGHBOUR: 'it returns false'. Refute it at one input. -/
def fnExactEdgeOfOpeningWrong : ChangeSpec := { name := "fnExactEdgeOfOpening", fn := fun _ => fun
  | [d1, d2] => { results := [.lit (.bool false)], args := [d1, d2] }
  | _ => none }
def FnExactEdgeOfOpeningWrongFalsely : Prop := fnExactEdgeOfOpeningRow.holds Tryd.pinned (OpenSpec.ofChange fnExactEdgeOfOpeningWrong)

/-- 'laws.FnExactCellsAlone': WHATEVER THE INPUT: true; the input reads as it did. -/
def fnExactCellsAloneSpec : ChangeSpec := { name := "fnExactCellsAlone", fn := fun _ => fun
  | [d] => { results := [.lit (.bool true)], args := [d] }
  | _ => none }
def fnExactCellsAloneRow : OpenClaim := { program := "ytndmkbkmfonefacdoor", sum := "91e3fe9e19bdcc4e81fca4bd28998a5c8691750024b1f9526c512bbd2711e44a", func := "loop.example/g01294/laws.FnExactCellsAlone", spec := "fnExactCellsAlone", inPlace := ["internal/bytealg.CountString", "internal/bytealg.IndexByteString", "internal/bytealg.IndexString"], unfollowed := true, recurses := true, named := ["unicode/utf8.first", "unicode/utf8.acceptRanges", "internal/bytealg.MaxLen"], apart := false, laid := [("unicode/utf8.acceptRanges", laid_unicode_utf8_acceptRanges), ("unicode/utf8.first", laid_unicode_utf8_first)] }
def FnExactCellsAloneSaid : Prop := fnExactCellsAloneRow.holds Tryd.pinned (OpenSpec.ofChange fnExactCellsAloneSpec)

/-- ITS FALSE NEIGHBOUR: 'it returns false'. Refute it at one input. -/
def fnExactCellsAloneWrong : ChangeSpec := { name := "fnExactCellsAlone", fn := fun _ => fun
  | [d] => { results := [.lit (.bool false)], args := [d] }
  | _ => none }
def FnExactCellsAloneWrongFalsely : Prop := fnExactCellsAloneRow.holds Tryd.pinned (OpenSpec.ofChange fnExactCellsAloneWrong)

/-- 'laws.FnExactFewestClicks': WHATEVER THE INPUT: true; the input reads as it did. -/
def fnExactFewestClicksSpec : ChangeSpec := { name := "fnExactFewestClicks", fn := fun _ => fun
  | [d] => { results := [.lit (.bool true)], args := [d] }
  | _ => none }
def fnExactFewestClicksRow : OpenClaim := { program := "ytndmkbkmfonefacdoor", sum := "91e3fe9e19bdcc4e81fca4bd28998a5c8691750024b1f9526c512bbd2711e44a", func := "loop.example/g01294/laws.FnExactFewestClicks", spec := "fnExactFewestClicks", inPlace := ["internal/bytealg.CountString", "internal/bytealg.IndexByteString", "internal/bytealg.IndexString"], unfollowed := true, recurses := true, named := ["unicode/utf8.first", "unicode/utf8.acceptRanges", "internal/bytealg.MaxLen"], apart := false, laid := [("unicode/utf8.acceptRanges", laid_unicode_utf8_acceptRanges), ("unicode/utf8.first", laid_unicode_utf8_first)] }
def FnExactFewestClicksSaid : Prop := fnExactFewestClicksRow.holds Tryd.pinned (OpenSpec.ofChange fnExactFewestClicksSpec)

/-- ITS FALSE NEIGHBOUR: 'it returns false'. Refute it at one input. -/
def fnExactFewestClicksWrong : ChangeSpec := { name := "fnExactFewestClicks", fn := fun _ => fun
  | [d] => { results := [.lit (.bool false)], args := [d] }
  | _ => none }
def FnExactFewestClicksWrongFalsely : Prop := fnExactFewestClicksRow.holds Tryd.pinned (OpenSpec.ofChange fnExactFewestClicksWrong)

/-- 'laws.FnExactFirstClicks': WHATEVER THE INPUT: true; the input reads as it did. -/
def fnExactFirstClicksSpec : ChangeSpec := { name := "fnExactFirstClicks", fn := fun _ => fun
  | [d] => { results := [.lit (.bool true)], args := [d] }
  | _ => none }
def fnExactFirstClicksRow : OpenClaim := { program := "ytndmkbkmfonefacdoor", sum := "91e3fe9e19bdcc4e81fca4bd28998a5c8691750024b1f9526c512bbd2711e44a", func := "loop.example/g01294/laws.FnExactFirstClicks", spec := "fnExactFirstClicks", inPlace := ["internal/bytealg.CountString", "internal/bytealg.IndexByteString", "internal/bytealg.IndexString"], unfollowed := true, recurses := true, named := ["unicode/utf8.first", "unicode/utf8.acceptRanges", "internal/bytealg.MaxLen"], apart := false, laid := [("unicode/utf8.acceptRanges", laid_unicode_utf8_acceptRanges), ("unicode/utf8.first", laid_unicode_utf8_first)] }
def FnExactFirstClicksSaid : Prop := fnExactFirstClicksRow.holds Tryd.pinned (OpenSpec.ofChange fnExactFirstClicksSpec)

/-- ITS FALSE NEIGHBOUR: 'it returns false'. Refute it at one input. -/
def fnExactFirstClicksWrong : ChangeSpec := { name := "fnExactFirstClicks", fn := fun _ => fun
  | [d] => { results := [.lit (.bool false)], args := [d] }
  | _ => none }
def FnExactFirstClicksWrongFalsely : Prop := fnExactFirstClicksRow.holds Tryd.pinned (OpenSpec.ofChange fnExactFirstClicksWrong)

/-- 'laws.FnExactLargestOpening': WHATEVER THE INPUT: true; the input reads as it did. -/
def fnExactLargestOpeningSpec : ChangeSpec := { name := "fnExactLargestOpening", fn := fun _ => fun
  | [d] => { results := [.lit (.bool true)], args := [d] }
  | _ => none }
def fnExactLargestOpeningRow : OpenClaim := { program := "ytndmkbkmfonefacdoor", sum := "91e3fe9e19bdcc4e81fca4bd28998a5c8691750024b1f9526c512bbd2711e44a", func := "loop.example/g01294/laws.FnExactLargestOpening", spec := "fnExactLargestOpening", inPlace := ["internal/bytealg.CountString", "internal/bytealg.IndexByteString", "internal/bytealg.IndexString"], unfollowed := true, recurses := true, named := ["unicode/utf8.first", "unicode/utf8.acceptRanges", "internal/bytealg.MaxLen"], apart := false, laid := [("unicode/utf8.acceptRanges", laid_unicode_utf8_acceptRanges), ("unicode/utf8.first", laid_unicode_utf8_first)] }
def FnExactLargestOpeningSaid : Prop := fnExactLargestOpeningRow.holds Tryd.pinned (OpenSpec.ofChange fnExactLargestOpeningSpec)

/-- ITS FALSE NEIGHBOUR: 'it returns false'. Refute it at one input. -/
def fnExactLargestOpeningWrong : ChangeSpec := { name := "fnExactLargestOpening", fn := fun _ => fun
  | [d] => { results := [.lit (.bool false)], args := [d] }
  | _ => none }
def FnExactLargestOpeningWrongFalsely : Prop := fnExactLargestOpeningRow.holds Tryd.pinned (OpenSpec.ofChange fnExactLargestOpeningWrong)

/-- 'laws.FnExactBestClicks': WHATEVER THE INPUT: true; the input reads as it did. -/
def fnExactBestClicksSpec : ChangeSpec := { name := "fnExactBestClicks", fn := fun _ => fun
  | [d] => { results := [.lit (.bool true)], args := [d] }
  | _ => none }
def fnExactBestClicksRow : OpenClaim := { program := "ytndmkbkmfonefacdoor", sum := "91e3fe9e19bdcc4e81fca4bd28998a5c8691750024b1f9526c512bbd2711e44a", func := "loop.example/g01294/laws.FnExactBestClicks", spec := "fnExactBestClicks", inPlace := ["internal/bytealg.CountString", "internal/bytealg.IndexByteString", "internal/bytealg.IndexString"], unfollowed := true, recurses := true, named := ["unicode/utf8.first", "unicode/utf8.acceptRanges", "internal/bytealg.MaxLen"], apart := false, laid := [("unicode/utf8.acceptRanges", laid_unicode_utf8_acceptRanges), ("unicode/utf8.first", laid_unicode_utf8_first)] }
def FnExactBestClicksSaid : Prop := fnExactBestClicksRow.holds Tryd.pinned (OpenSpec.ofChange fnExactBestClicksSpec)

/-- ITS FALSE NEIGHBOUR: 'it returns false'. Refute it at one input. -/
def fnExactBestClicksWrong : ChangeSpec := { name := "fnExactBestClicks", fn := fun _ => fun
  | [d] => { results := [.lit (.bool false)], args := [d] }
  | _ => none }
def FnExactBestClicksWrongFalsely : Prop := fnExactBestClicksRow.holds Tryd.pinned (OpenSpec.ofChange fnExactBestClicksWrong)

/-- 'laws.FnExactOpeningsWith': WHATEVER THE INPUT: true; the input reads as it did. -/
def fnExactOpeningsWithSpec : ChangeSpec := { name := "fnExactOpeningsWith", fn := fun _ => fun
  | [d1, d2] => { results := [.lit (.bool true)], args := [d1, d2] }
  | _ => none }
def fnExactOpeningsWithRow : OpenClaim := { program := "ytndmkbkmfonefacdoor", sum := "91e3fe9e19bdcc4e81fca4bd28998a5c8691750024b1f9526c512bbd2711e44a", func := "loop.example/g01294/laws.FnExactOpeningsWith", spec := "fnExactOpeningsWith", inPlace := ["internal/bytealg.CountString", "internal/bytealg.IndexByteString", "internal/bytealg.IndexString"], unfollowed := true, recurses := true, named := ["unicode/utf8.first", "unicode/utf8.acceptRanges", "internal/bytealg.MaxLen"], apart := false, laid := [("unicode/utf8.acceptRanges", laid_unicode_utf8_acceptRanges), ("unicode/utf8.first", laid_unicode_utf8_first)] }
def FnExactOpeningsWithSaid : Prop := fnExactOpeningsWithRow.holds Tryd.pinned (OpenSpec.ofChange fnExactOpeningsWithSpec)

/-- ITS FALSE NEIGHBOUR: 'it returns false'. Refute it at one input. -/
def fnExactOpeningsWithWrong : ChangeSpec := { name := "fnExactOpeningsWith", fn := fun _ => fun
  | [d1, d2] => { results := [.lit (.bool false)], args := [d1, d2] }
  | _ => none }
def FnExactOpeningsWithWrongFalsely : Prop := fnExactOpeningsWithRow.holds Tryd.pinned (OpenSpec.ofChange fnExactOpeningsWithWrong)

/-- 'laws.FnExactSharedCells': WHATEVER THE INPUT: true; the input reads as it did. -/
def fnExactSharedCellsSpec : ChangeSpec := { name := "fnExactSharedCells", fn := fun _ => fun
  | [d] => { results := [.lit (.bool true)], args := [d] }
  | _ => none }
def fnExactSharedCellsRow : OpenClaim := { program := "ytndmkbkmfonefacdoor", sum := "91e3fe9e19bdcc4e81fca4bd28998a5c8691750024b1f9526c512bbd2711e44a", func := "loop.example/g01294/laws.FnExactSharedCells", spec := "fnExactSharedCells", inPlace := ["internal/bytealg.CountString", "internal/bytealg.IndexByteString", "internal/bytealg.IndexString"], unfollowed := true, recurses := true, named := ["unicode/utf8.first", "unicode/utf8.acceptRanges", "internal/bytealg.MaxLen"], apart := false, laid := [("unicode/utf8.acceptRanges", laid_unicode_utf8_acceptRanges), ("unicode/utf8.first", laid_unicode_utf8_first)] }
def FnExactSharedCellsSaid : Prop := fnExactSharedCellsRow.holds Tryd.pinned (OpenSpec.ofChange fnExactSharedCellsSpec)

/-- ITS FALSE NEIGHBOUR: 'it returns false'. Refute it at one input. -/
def fnExactSharedCellsWrong : ChangeSpec := { name := "fnExactSharedCells", fn := fun _ => fun
  | [d] => { results := [.lit (.bool false)], args := [d] }
  | _ => none }
def FnExactSharedCellsWrongFalsely : Prop := fnExactSharedCellsRow.holds Tryd.pinned (OpenSpec.ofChange fnExactSharedCellsWrong)

/-- 'laws.FnExactClicksNeeded': WHATEVER THE INPUT: true; the input reads as it did. -/
def fnExactClicksNeededSpec : ChangeSpec := { name := "fnExactClicksNeeded", fn := fun _ => fun
  | [d1, d2] => { results := [.lit (.bool true)], args := [d1, d2] }
  | _ => none }
def fnExactClicksNeededRow : OpenClaim := { program := "ytndmkbkmfonefacdoor", sum := "91e3fe9e19bdcc4e81fca4bd28998a5c8691750024b1f9526c512bbd2711e44a", func := "loop.example/g01294/laws.FnExactClicksNeeded", spec := "fnExactClicksNeeded", inPlace := ["internal/bytealg.CountString", "internal/bytealg.IndexByteString", "internal/bytealg.IndexString"], unfollowed := true, recurses := true, named := ["unicode/utf8.first", "unicode/utf8.acceptRanges", "internal/bytealg.MaxLen"], apart := false, laid := [("unicode/utf8.acceptRanges", laid_unicode_utf8_acceptRanges), ("unicode/utf8.first", laid_unicode_utf8_first)] }
def FnExactClicksNeededSaid : Prop := fnExactClicksNeededRow.holds Tryd.pinned (OpenSpec.ofChange fnExactClicksNeededSpec)

/-- ITS FALSE NEIGHBOUR: 'it returns false'. Refute it at one input. -/
def fnExactClicksNeededWrong : ChangeSpec := { name := "fnExactClicksNeeded", fn := fun _ => fun
  | [d1, d2] => { results := [.lit (.bool false)], args := [d1, d2] }
  | _ => none }
def FnExactClicksNeededWrongFalsely : Prop := fnExactClicksNeededRow.holds Tryd.pinned (OpenSpec.ofChange fnExactClicksNeededWrong)

/- THE SECOND FORM. 'bulk': how many values and letters a reading holds, each counted each time it is reached (what is shared counts as often as it is met; a slice's spare places count too). A statement '..UptoSaid' is the law's where the arguments, and the package variables that the reading takes, are together of bulk at most 1048576: NARROWER than '..Said'. Prove '..Said' where nothing that the law and all that it calls make is longer than what came in: it says more and counts as full. Else prove '..UptoSaid'. A law counts once. -/
mutual
def uptoBulk {H : Type} : DataW H → Nat
  | .lit (.string bytes) => bytes.length + 1
  | .lit _ => 1
  | .nil => 1
  | .ptr d => uptoBulk d + 1
  | .slice elems spare => uptoBulkAll elems + uptoBulkAll spare + 1
  | .agg parts => uptoBulkAll parts + 1
  | .iface _ d => uptoBulk d + 1
  | .map entries => uptoBulkEntries entries + 1
  | .held _ => 1
def uptoBulkAll {H : Type} : List (DataW H) → Nat
  | [] => 0
  | d :: r => uptoBulk d + uptoBulkAll r
def uptoBulkEntries {H : Type} : List (Lit × DataW H) → Nat
  | [] => 0
  | x :: r => uptoBulkEntry x + uptoBulkEntries r
def uptoBulkEntry {H : Type} : Lit × DataW H → Nat
  | (.string bytes, d) => bytes.length + uptoBulk d + 1
  | (_, d) => uptoBulk d + 1
 end
def uptoSmall : (H : Type) → List (DataW H) → Bool := fun _ ds => decide (uptoBulkAll ds ≤ 1048576)
def OpenSpec.upto (s : _root_.Go.ChangeSpec) : _root_.Go.OpenSpec := { _root_.Go.OpenSpec.ofChange s with cond := some uptoSmall }

/-- 'laws.FnExactCountOpenings', WHERE WHAT IT READS IS OF BULK AT MOST 1048576: true; the input reads as it did. -/
def fnExactCountOpeningsUptoRow : OpenClaim := { program := "ytndmkbkmfonefacdoor", sum := "91e3fe9e19bdcc4e81fca4bd28998a5c8691750024b1f9526c512bbd2711e44a", func := "loop.example/g01294/laws.FnExactCountOpenings", spec := "fnExactCountOpenings", inPlace := ["internal/bytealg.CountString", "internal/bytealg.IndexByteString", "internal/bytealg.IndexString"], unfollowed := true, recurses := true, named := ["unicode/utf8.first", "unicode/utf8.acceptRanges", "internal/bytealg.MaxLen"], apart := false, laid := [("unicode/utf8.acceptRanges", laid_unicode_utf8_acceptRanges), ("unicode/utf8.first", laid_unicode_utf8_first)], narrowed := true }
def FnExactCountOpeningsUptoSaid : Prop := fnExactCountOpeningsUptoRow.holds Tryd.pinned (OpenSpec.upto fnExactCountOpeningsSpec)

/-- 'laws.FnExactEdgeOfOpening', WHERE WHAT IT READS IS OF BULK AT MOST 1048576: true; the input reads as it did. -/
def fnExactEdgeOfOpeningUptoRow : OpenClaim := { program := "ytndmkbkmfonefacdoor", sum := "91e3fe9e19bdcc4e81fca4bd28998a5c8691750024b1f9526c512bbd2711e44a", func := "loop.example/g01294/laws.FnExactEdgeOfOpening", spec := "fnExactEdgeOfOpening", inPlace := ["internal/bytealg.CountString", "internal/bytealg.IndexByteString", "internal/bytealg.IndexString"], unfollowed := true, recurses := true, named := ["unicode/utf8.first", "unicode/utf8.acceptRanges", "internal/bytealg.MaxLen"], apart := false, laid := [("unicode/utf8.acceptRanges", laid_unicode_utf8_acceptRanges), ("unicode/utf8.first", laid_unicode_utf8_first)], narrowed := true }
def FnExactEdgeOfOpeningUptoSaid : Prop := fnExactEdgeOfOpeningUptoRow.holds Tryd.pinned (OpenSpec.upto fnExactEdgeOfOpeningSpec)

/-- 'laws.FnExactCellsAlone', WHERE WHAT IT READS IS OF BULK AT MOST 1048576: true; the input reads as it did. -/
def fnExactCellsAloneUptoRow : OpenClaim := { program := "ytndmkbkmfonefacdoor", sum := "91e3fe9e19bdcc4e81fca4bd28998a5c8691750024b1f9526c512bbd2711e44a", func := "loop.example/g01294/laws.FnExactCellsAlone", spec := "fnExactCellsAlone", inPlace := ["internal/bytealg.CountString", "internal/bytealg.IndexByteString", "internal/bytealg.IndexString"], unfollowed := true, recurses := true, named := ["unicode/utf8.first", "unicode/utf8.acceptRanges", "internal/bytealg.MaxLen"], apart := false, laid := [("unicode/utf8.acceptRanges", laid_unicode_utf8_acceptRanges), ("unicode/utf8.first", laid_unicode_utf8_first)], narrowed := true }
def FnExactCellsAloneUptoSaid : Prop := fnExactCellsAloneUptoRow.holds Tryd.pinned (OpenSpec.upto fnExactCellsAloneSpec)

/-- 'laws.FnExactFewestClicks', WHERE WHAT IT READS IS OF BULK AT MOST 1048576: true; the input reads as it did. -/
def fnExactFewestClicksUptoRow : OpenClaim := { program := "ytndmkbkmfonefacdoor", sum := "91e3fe9e19bdcc4e81fca4bd28998a5c8691750024b1f9526c512bbd2711e44a", func := "loop.example/g01294/laws.FnExactFewestClicks", spec := "fnExactFewestClicks", inPlace := ["internal/bytealg.CountString", "internal/bytealg.IndexByteString", "internal/bytealg.IndexString"], unfollowed := true, recurses := true, named := ["unicode/utf8.first", "unicode/utf8.acceptRanges", "internal/bytealg.MaxLen"], apart := false, laid := [("unicode/utf8.acceptRanges", laid_unicode_utf8_acceptRanges), ("unicode/utf8.first", laid_unicode_utf8_first)], narrowed := true }
def FnExactFewestClicksUptoSaid : Prop := fnExactFewestClicksUptoRow.holds Tryd.pinned (OpenSpec.upto fnExactFewestClicksSpec)

/-- 'laws.FnExactFirstClicks', WHERE WHAT IT READS IS OF BULK AT MOST 1048576: true; the input reads as it did. -/
def fnExactFirstClicksUptoRow : OpenClaim := { program := "ytndmkbkmfonefacdoor", sum := "91e3fe9e19bdcc4e81fca4bd28998a5c8691750024b1f9526c512bbd2711e44a", func := "loop.example/g01294/laws.FnExactFirstClicks", spec := "fnExactFirstClicks", inPlace := ["internal/bytealg.CountString", "internal/bytealg.IndexByteString", "internal/bytealg.IndexString"], unfollowed := true, recurses := true, named := ["unicode/utf8.first", "unicode/utf8.acceptRanges", "internal/bytealg.MaxLen"], apart := false, laid := [("unicode/utf8.acceptRanges", laid_unicode_utf8_acceptRanges), ("unicode/utf8.first", laid_unicode_utf8_first)], narrowed := true }
def FnExactFirstClicksUptoSaid : Prop := fnExactFirstClicksUptoRow.holds Tryd.pinned (OpenSpec.upto fnExactFirstClicksSpec)

/-- 'laws.FnExactLargestOpening', WHERE WHAT IT READS IS OF BULK AT MOST 1048576: true; the input reads as it did. -/
def fnExactLargestOpeningUptoRow : OpenClaim := { program := "ytndmkbkmfonefacdoor", sum := "91e3fe9e19bdcc4e81fca4bd28998a5c8691750024b1f9526c512bbd2711e44a", func := "loop.example/g01294/laws.FnExactLargestOpening", spec := "fnExactLargestOpening", inPlace := ["internal/bytealg.CountString", "internal/bytealg.IndexByteString", "internal/bytealg.IndexString"], unfollowed := true, recurses := true, named := ["unicode/utf8.first", "unicode/utf8.acceptRanges", "internal/bytealg.MaxLen"], apart := false, laid := [("unicode/utf8.acceptRanges", laid_unicode_utf8_acceptRanges), ("unicode/utf8.first", laid_unicode_utf8_first)], narrowed := true }
def FnExactLargestOpeningUptoSaid : Prop := fnExactLargestOpeningUptoRow.holds Tryd.pinned (OpenSpec.upto fnExactLargestOpeningSpec)

/-- 'laws.FnExactBestClicks', WHERE WHAT IT READS IS OF BULK AT MOST 1048576: true; the input reads as it did. -/
def fnExactBestClicksUptoRow : OpenClaim := { program := "ytndmkbkmfonefacdoor", sum := "91e3fe9e19bdcc4e81fca4bd28998a5c8691750024b1f9526c512bbd2711e44a", func := "loop.example/g01294/laws.FnExactBestClicks", spec := "fnExactBestClicks", inPlace := ["internal/bytealg.CountString", "internal/bytealg.IndexByteString", "internal/bytealg.IndexString"], unfollowed := true, recurses := true, named := ["unicode/utf8.first", "unicode/utf8.acceptRanges", "internal/bytealg.MaxLen"], apart := false, laid := [("unicode/utf8.acceptRanges", laid_unicode_utf8_acceptRanges), ("unicode/utf8.first", laid_unicode_utf8_first)], narrowed := true }
def FnExactBestClicksUptoSaid : Prop := fnExactBestClicksUptoRow.holds Tryd.pinned (OpenSpec.upto fnExactBestClicksSpec)

/-- 'laws.FnExactOpeningsWith', WHERE WHAT IT READS IS OF BULK AT MOST 1048576: true; the input reads as it did. -/
def fnExactOpeningsWithUptoRow : OpenClaim := { program := "ytndmkbkmfonefacdoor", sum := "91e3fe9e19bdcc4e81fca4bd28998a5c8691750024b1f9526c512bbd2711e44a", func := "loop.example/g01294/laws.FnExactOpeningsWith", spec := "fnExactOpeningsWith", inPlace := ["internal/bytealg.CountString", "internal/bytealg.IndexByteString", "internal/bytealg.IndexString"], unfollowed := true, recurses := true, named := ["unicode/utf8.first", "unicode/utf8.acceptRanges", "internal/bytealg.MaxLen"], apart := false, laid := [("unicode/utf8.acceptRanges", laid_unicode_utf8_acceptRanges), ("unicode/utf8.first", laid_unicode_utf8_first)], narrowed := true }
def FnExactOpeningsWithUptoSaid : Prop := fnExactOpeningsWithUptoRow.holds Tryd.pinned (OpenSpec.upto fnExactOpeningsWithSpec)

/-- 'laws.FnExactSharedCells', WHERE WHAT IT READS IS OF BULK AT MOST 1048576: true; the input reads as it did. -/
def fnExactSharedCellsUptoRow : OpenClaim := { program := "ytndmkbkmfonefacdoor", sum := "91e3fe9e19bdcc4e81fca4bd28998a5c8691750024b1f9526c512bbd2711e44a", func := "loop.example/g01294/laws.FnExactSharedCells", spec := "fnExactSharedCells", inPlace := ["internal/bytealg.CountString", "internal/bytealg.IndexByteString", "internal/bytealg.IndexString"], unfollowed := true, recurses := true, named := ["unicode/utf8.first", "unicode/utf8.acceptRanges", "internal/bytealg.MaxLen"], apart := false, laid := [("unicode/utf8.acceptRanges", laid_unicode_utf8_acceptRanges), ("unicode/utf8.first", laid_unicode_utf8_first)], narrowed := true }
def FnExactSharedCellsUptoSaid : Prop := fnExactSharedCellsUptoRow.holds Tryd.pinned (OpenSpec.upto fnExactSharedCellsSpec)

/-- 'laws.FnExactClicksNeeded', WHERE WHAT IT READS IS OF BULK AT MOST 1048576: true; the input reads as it did. -/
def fnExactClicksNeededUptoRow : OpenClaim := { program := "ytndmkbkmfonefacdoor", sum := "91e3fe9e19bdcc4e81fca4bd28998a5c8691750024b1f9526c512bbd2711e44a", func := "loop.example/g01294/laws.FnExactClicksNeeded", spec := "fnExactClicksNeeded", inPlace := ["internal/bytealg.CountString", "internal/bytealg.IndexByteString", "internal/bytealg.IndexString"], unfollowed := true, recurses := true, named := ["unicode/utf8.first", "unicode/utf8.acceptRanges", "internal/bytealg.MaxLen"], apart := false, laid := [("unicode/utf8.acceptRanges", laid_unicode_utf8_acceptRanges), ("unicode/utf8.first", laid_unicode_utf8_first)], narrowed := true }
def FnExactClicksNeededUptoSaid : Prop := fnExactClicksNeededUptoRow.holds Tryd.pinned (OpenSpec.upto fnExactClicksNeededSpec)

end Rows
end Go.Proofs.YtndmkbkmfonefacDoor
