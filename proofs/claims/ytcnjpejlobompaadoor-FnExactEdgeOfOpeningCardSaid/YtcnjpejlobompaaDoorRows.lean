/-
  NARROWER THAN 'FOR EVERY INPUT', by the rows' own cells (each row's printed sentence says how): FnExactOpenedBy: laid · FnExactOpeningsOf: laid · FnExactCountOpenings: laid · FnExactEdgeOfOpening: laid · FnExactCellsAlone: laid · FnExactFewestClicks: laid · FnExactFirstClicks: laid · FnExactOpenAfter: laid · FnExactAreAllOpen: laid · FnExactNeedlessClicks: laid · FnExactSeenAfter: laid · FnExactLargestOpening: laid.
  DERIVED. THE GIVEN ROWS OF THIS SEAT. 12 by the template 'for every input the law returns true; each argument reads behind the call as it read before'; 0 by the template 'total and deterministic' (their statements: YtcnjpejlobompaaDoorTotals.lean).
  GIVEN WITH THE SEED: the statements are not yours to turn. If you find one false, say at which input.
  Laid BY PROGRAM, IN A SANDBOX (cutbox-rows.mjs): the forced cells as the released guide's own fill.sh prints them over the translation 57a21d699cf359c4… (all of the seat's roots in one cut). By AI agents, Wed Nov 11 2026. No macro, syntax, notation, axiom, sorry.
-/
import Derived.Test.YtcnjpejlobompaaDoorChecked
import GoSem.PinnedTables
import GoSem.Claim
import GoSem.ClaimJoined
import GoSem.ClaimMapViews
import Derived.JoinedTies
import Derived.KernelRfl
namespace Go.Proofs.YtcnjpejlobompaaDoor
/- THE CELL 'sum', in the pinned program and in every row, IS THE sha256 OF THE DUMP (.gsa) THAT YtcnjpejlobompaaDoorProg.lean LOADS. Nothing in Lean hashes anything: it is a label: what it is worth is what the hold of that sum in a sandbox is worth. -/
noncomputable def Tryd.pinned : Pinned := { name := "ytcnjpejlobompaadoor", sum := "57a21d699cf359c4eab13aea473ba4ab87b4f474f812a835d9797e5706a5010c", checked := Tryd.checked }
namespace Rows
def none {H : Type} : Left H := { results := [], args := [] }

/- WHAT THE LISTED PACKAGE-LEVEL VARIABLES READ AS WHEN THE CALL BEGINS. Each datum BY PROGRAM (the guide's laid-datum.mjs) off the statement by which the dump's own 'gosem.cut.vars' lays the variable. In a bare row this is a premise. The card (YtcnjpejlobompaaDoorCards.lean) ties it to the program's text. -/
def laid_unicode_utf8_acceptRanges {H : Type} : DataW H := .agg [.agg [.lit (.int .u8 128), .lit (.int .u8 191)], .agg [.lit (.int .u8 160), .lit (.int .u8 191)], .agg [.lit (.int .u8 128), .lit (.int .u8 159)], .agg [.lit (.int .u8 144), .lit (.int .u8 191)], .agg [.lit (.int .u8 128), .lit (.int .u8 143)], .agg [.lit (.int .u8 0), .lit (.int .u8 0)], .agg [.lit (.int .u8 0), .lit (.int .u8 0)], .agg [.lit (.int .u8 0), .lit (.int .u8 0)], .agg [.lit (.int .u8 0), .lit (.int .u8 0)], .agg [.lit (.int .u8 0), .lit (.int .u8 0)], .agg [.lit (.int .u8 0), .lit (.int .u8 0)], .agg [.lit (.int .u8 0), .lit (.int .u8 0)], .agg [.lit (.int .u8 0), .lit (.int .u8 0)], .agg [.lit (.int .u8 0), .lit (.int .u8 0)], .agg [.lit (.int .u8 0), .lit (.int .u8 0)], .agg [.lit (.int .u8 0), .lit (.int .u8 0)]]
/-- One of Go's own tables, pinned by name: the form's constant. -/
def laid_unicode_utf8_first : DataW Unit := Go.Pinned.utf8First

/-- 'laws.FnExactOpenedBy': WHATEVER THE INPUT: true; the input reads as it did. -/
def fnExactOpenedBySpec : ChangeSpec := { name := "fnExactOpenedBy", fn := fun _ => fun
  | [d1, d2] => { results := [.lit (.bool true)], args := [d1, d2] }
  | _ => none }
def fnExactOpenedByRow : OpenClaim := { program := "ytcnjpejlobompaadoor", sum := "57a21d699cf359c4eab13aea473ba4ab87b4f474f812a835d9797e5706a5010c", func := "loop.example/g01294/laws.FnExactOpenedBy", spec := "fnExactOpenedBy", inPlace := ["internal/bytealg.CountString", "internal/bytealg.IndexByteString", "internal/bytealg.IndexString"], unfollowed := true, recurses := true, named := ["unicode/utf8.first", "unicode/utf8.acceptRanges", "internal/bytealg.MaxLen"], apart := false, laid := [("unicode/utf8.acceptRanges", laid_unicode_utf8_acceptRanges), ("unicode/utf8.first", laid_unicode_utf8_first)] }
def FnExactOpenedBySaid : Prop := fnExactOpenedByRow.holds Tryd.pinned (OpenSpec.ofChange fnExactOpenedBySpec)

/-- ITS FALSE NEIGHBOUR: 'it returns false'. Refute it at one input. -/
def fnExactOpenedByWrong : ChangeSpec := { name := "fnExactOpenedBy", fn := fun _ => fun
  | [d1, d2] => { results := [.lit (.bool false)], args := [d1, d2] }
  | _ => none }
def FnExactOpenedByWrongFalsely : Prop := fnExactOpenedByRow.holds Tryd.pinned (OpenSpec.ofChange fnExactOpenedByWrong)

/-- 'laws.FnExactOpeningsOf': WHATEVER THE INPUT: true; the input reads as it did. -/
def fnExactOpeningsOfSpec : ChangeSpec := { name := "fnExactOpeningsOf", fn := fun _ => fun
  | [d] => { results := [.lit (.bool true)], args := [d] }
  | _ => none }
def fnExactOpeningsOfRow : OpenClaim := { program := "ytcnjpejlobompaadoor", sum := "57a21d699cf359c4eab13aea473ba4ab87b4f474f812a835d9797e5706a5010c", func := "loop.example/g01294/laws.FnExactOpeningsOf", spec := "fnExactOpeningsOf", inPlace := ["internal/bytealg.CountString", "internal/bytealg.IndexByteString", "internal/bytealg.IndexString"], unfollowed := true, recurses := true, named := ["unicode/utf8.first", "unicode/utf8.acceptRanges", "internal/bytealg.MaxLen"], apart := false, laid := [("unicode/utf8.acceptRanges", laid_unicode_utf8_acceptRanges), ("unicode/utf8.first", laid_unicode_utf8_first)] }
def FnExactOpeningsOfSaid : Prop := fnExactOpeningsOfRow.holds Tryd.pinned (OpenSpec.ofChange fnExactOpeningsOfSpec)

/-- ITS FALSE NEIGHBOUR: 'it returns false'. Refute it at one input. -/
def fnExactOpeningsOfWrong : ChangeSpec := { name := "fnExactOpeningsOf", fn := fun _ => fun
  | [d] => { results := [.lit (.bool false)], args := [d] }
  | _ => none }
def FnExactOpeningsOfWrongFalsely : Prop := fnExactOpeningsOfRow.holds Tryd.pinned (OpenSpec.ofChange fnExactOpeningsOfWrong)

/-- 'laws.FnExactCountOpenings': WHATEVER THE INPUT: true; the input reads as it did. -/
def fnExactCountOpeningsSpec : ChangeSpec := { name := "fnExactCountOpenings", fn := fun _ => fun
  | [d] => { results := [.lit (.bool true)], args := [d] }
  | _ => none }
def fnExactCountOpeningsRow : OpenClaim := { program := "ytcnjpejlobompaadoor", sum := "57a21d699cf359c4eab13aea473ba4ab87b4f474f812a835d9797e5706a5010c", func := "loop.example/g01294/laws.FnExactCountOpenings", spec := "fnExactCountOpenings", inPlace := ["internal/bytealg.CountString", "internal/bytealg.IndexByteString", "internal/bytealg.IndexString"], named := ["unicode/utf8.first", "unicode/utf8.acceptRanges", "internal/bytealg.MaxLen"], apart := false, laid := [("unicode/utf8.acceptRanges", laid_unicode_utf8_acceptRanges), ("unicode/utf8.first", laid_unicode_utf8_first)] }
def FnExactCountOpeningsSaid : Prop := fnExactCountOpeningsRow.holds Tryd.pinned (OpenSpec.ofChange fnExactCountOpeningsSpec)

/-- ITS FALSE NEIGHBOUR: 'it returns false'. Refute it at one input. -/
def fnExactCountOpeningsWrong : ChangeSpec := { name := "fnExactCountOpenings", fn := fun _ => fun
  | [d] => { results := [.lit (.bool false)], args := [d] }
  | _ => none }
def FnExactCountOpeningsWrongFalsely : Prop := fnExactCountOpeningsRow.holds Tryd.pinned (OpenSpec.ofChange fnExactCountOpeningsWrong)

/-- 'laws.FnExactEdgeOfOpening': WHATEVER THE INPUT: true; the input reads as it did. -/
def fnExactEdgeOfOpeningSpec : ChangeSpec := { name := "fnExactEdgeOfOpening", fn := fun _ => fun
  | [d1, d2] => { results := [.lit (.bool true)], args := [d1, d2] }
  | _ => none }
def fnExactEdgeOfOpeningRow : OpenClaim := { program := "ytcnjpejlobompaadoor", sum := "57a21d699cf359c4eab13aea473ba4ab87b4f474f812a835d9797e5706a5010c", func := "loop.example/g01294/laws.FnExactEdgeOfOpening", spec := "fnExactEdgeOfOpening", inPlace := ["internal/bytealg.CountString", "internal/bytealg.IndexByteString", "internal/bytealg.IndexString"], unfollowed := true, recurses := true, named := ["unicode/utf8.first", "unicode/utf8.acceptRanges", "internal/bytealg.MaxLen"], apart := false, laid := [("unicode/utf8.acceptRanges", laid_unicode_utf8_acceptRanges), ("unicode/utf8.first", laid_unicode_utf8_first)] }
def FnExactEdgeOfOpeningSaid : Prop := fnExactEdgeOfOpeningRow.holds Tryd.pinned (OpenSpec.ofChange fnExactEdgeOfOpeningSpec)

/-- ITS FALSE NEIGHBOUR: 'it returns false'. Refute it at one input. -/
def fnExactEdgeOfOpeningWrong : ChangeSpec := { name := "fnExactEdgeOfOpening", fn := fun _ => fun
  | [d1, d2] => { results := [.lit (.bool false)], args := [d1, d2] }
  | _ => none }
def FnExactEdgeOfOpeningWrongFalsely : Prop := fnExactEdgeOfOpeningRow.holds Tryd.pinned (OpenSpec.ofChange fnExactEdgeOfOpeningWrong)

/-- 'laws.FnExactCellsAlone': WHATEVER THE INPUT: true; the input reads as it did. -/
def fnExactCellsAloneSpec : ChangeSpec := { name := "fnExactCellsAlone", fn := fun _ => fun
  | [d] => { results := [.lit (.bool true)], args := [d] }
  | _ => none }
def fnExactCellsAloneRow : OpenClaim := { program := "ytcnjpejlobompaadoor", sum := "57a21d699cf359c4eab13aea473ba4ab87b4f474f812a835d9797e5706a5010c", func := "loop.example/g01294/laws.FnExactCellsAlone", spec := "fnExactCellsAlone", inPlace := ["internal/bytealg.CountString", "internal/bytealg.IndexByteString", "internal/bytealg.IndexString"], unfollowed := true, recurses := true, named := ["unicode/utf8.first", "unicode/utf8.acceptRanges", "internal/bytealg.MaxLen"], apart := false, laid := [("unicode/utf8.acceptRanges", laid_unicode_utf8_acceptRanges), ("unicode/utf8.first", laid_unicode_utf8_first)] }
def FnExactCellsAloneSaid : Prop := fnExactCellsAloneRow.holds Tryd.pinned (OpenSpec.ofChange fnExactCellsAloneSpec)

/-- ITS FALSE NEIGHBOUR: 'it returns false'. Refute it at one input. -/
def fnExactCellsAloneWrong : ChangeSpec := { name := "fnExactCellsAlone", fn := fun _ => fun
  | [d] => { results := [.lit (.bool false)], args := [d] }
  | _ => none }
def FnExactCellsAloneWrongFalsely : Prop := fnExactCellsAloneRow.holds Tryd.pinned (OpenSpec.ofChange fnExactCellsAloneWrong)

/-- 'laws.FnExactFewestClicks': WHATEVER THE INPUT: true; the input reads as it did. -/
def fnExactFewestClicksSpec : ChangeSpec := { name := "fnExactFewestClicks", fn := fun _ => fun
  | [d] => { results := [.lit (.bool true)], args := [d] }
  | _ => none }
def fnExactFewestClicksRow : OpenClaim := { program := "ytcnjpejlobompaadoor", sum := "57a21d699cf359c4eab13aea473ba4ab87b4f474f812a835d9797e5706a5010c", func := "loop.example/g01294/laws.FnExactFewestClicks", spec := "fnExactFewestClicks", inPlace := ["internal/bytealg.CountString", "internal/bytealg.IndexByteString", "internal/bytealg.IndexString"], unfollowed := true, recurses := true, named := ["unicode/utf8.first", "unicode/utf8.acceptRanges", "internal/bytealg.MaxLen"], apart := false, laid := [("unicode/utf8.acceptRanges", laid_unicode_utf8_acceptRanges), ("unicode/utf8.first", laid_unicode_utf8_first)] }
def FnExactFewestClicksSaid : Prop := fnExactFewestClicksRow.holds Tryd.pinned (OpenSpec.ofChange fnExactFewestClicksSpec)

/-- ITS FALSE NEIGHBOUR: 'it returns false'. Refute it at one input. -/
def fnExactFewestClicksWrong : ChangeSpec := { name := "fnExactFewestClicks", fn := fun _ => fun
  | [d] => { results := [.lit (.bool false)], args := [d] }
  | _ => none }
def FnExactFewestClicksWrongFalsely : Prop := fnExactFewestClicksRow.holds Tryd.pinned (OpenSpec.ofChange fnExactFewestClicksWrong)

/-- 'laws.FnExactFirstClicks': WHATEVER THE INPUT: true; the input reads as it did. -/
def fnExactFirstClicksSpec : ChangeSpec := { name := "fnExactFirstClicks", fn := fun _ => fun
  | [d] => { results := [.lit (.bool true)], args := [d] }
  | _ => none }
def fnExactFirstClicksRow : OpenClaim := { program := "ytcnjpejlobompaadoor", sum := "57a21d699cf359c4eab13aea473ba4ab87b4f474f812a835d9797e5706a5010c", func := "loop.example/g01294/laws.FnExactFirstClicks", spec := "fnExactFirstClicks", inPlace := ["internal/bytealg.CountString", "internal/bytealg.IndexByteString", "internal/bytealg.IndexString"], unfollowed := true, recurses := true, named := ["unicode/utf8.first", "unicode/utf8.acceptRanges", "internal/bytealg.MaxLen"], apart := false, laid := [("unicode/utf8.acceptRanges", laid_unicode_utf8_acceptRanges), ("unicode/utf8.first", laid_unicode_utf8_first)] }
def FnExactFirstClicksSaid : Prop := fnExactFirstClicksRow.holds Tryd.pinned (OpenSpec.ofChange fnExactFirstClicksSpec)

/-- ITS FALSE NEIGHBOUR: 'it returns false'. Refute it at one input. -/
def fnExactFirstClicksWrong : ChangeSpec := { name := "fnExactFirstClicks", fn := fun _ => fun
  | [d] => { results := [.lit (.bool false)], args := [d] }
  | _ => none }
def FnExactFirstClicksWrongFalsely : Prop := fnExactFirstClicksRow.holds Tryd.pinned (OpenSpec.ofChange fnExactFirstClicksWrong)

/-- 'laws.FnExactOpenAfter': WHATEVER THE INPUT: true; the input reads as it did. -/
def fnExactOpenAfterSpec : ChangeSpec := { name := "fnExactOpenAfter", fn := fun _ => fun
  | [d1, d2] => { results := [.lit (.bool true)], args := [d1, d2] }
  | _ => none }
def fnExactOpenAfterRow : OpenClaim := { program := "ytcnjpejlobompaadoor", sum := "57a21d699cf359c4eab13aea473ba4ab87b4f474f812a835d9797e5706a5010c", func := "loop.example/g01294/laws.FnExactOpenAfter", spec := "fnExactOpenAfter", inPlace := ["internal/bytealg.CountString", "internal/bytealg.IndexByteString", "internal/bytealg.IndexString"], unfollowed := true, recurses := true, named := ["unicode/utf8.first", "unicode/utf8.acceptRanges", "internal/bytealg.MaxLen"], apart := false, laid := [("unicode/utf8.acceptRanges", laid_unicode_utf8_acceptRanges), ("unicode/utf8.first", laid_unicode_utf8_first)] }
def FnExactOpenAfterSaid : Prop := fnExactOpenAfterRow.holds Tryd.pinned (OpenSpec.ofChange fnExactOpenAfterSpec)

/-- ITS FALSE NEIGHBOUR: 'it returns false'. Refute it at one input. -/
def fnExactOpenAfterWrong : ChangeSpec := { name := "fnExactOpenAfter", fn := fun _ => fun
  | [d1, d2] => { results := [.lit (.bool false)], args := [d1, d2] }
  | _ => none }
def FnExactOpenAfterWrongFalsely : Prop := fnExactOpenAfterRow.holds Tryd.pinned (OpenSpec.ofChange fnExactOpenAfterWrong)

/-- 'laws.FnExactAreAllOpen': WHATEVER THE INPUT: true; the input reads as it did. -/
def fnExactAreAllOpenSpec : ChangeSpec := { name := "fnExactAreAllOpen", fn := fun _ => fun
  | [d1, d2] => { results := [.lit (.bool true)], args := [d1, d2] }
  | _ => none }
def fnExactAreAllOpenRow : OpenClaim := { program := "ytcnjpejlobompaadoor", sum := "57a21d699cf359c4eab13aea473ba4ab87b4f474f812a835d9797e5706a5010c", func := "loop.example/g01294/laws.FnExactAreAllOpen", spec := "fnExactAreAllOpen", inPlace := ["internal/bytealg.CountString", "internal/bytealg.IndexByteString", "internal/bytealg.IndexString"], unfollowed := true, recurses := true, named := ["unicode/utf8.first", "unicode/utf8.acceptRanges", "internal/bytealg.MaxLen"], apart := false, laid := [("unicode/utf8.acceptRanges", laid_unicode_utf8_acceptRanges), ("unicode/utf8.first", laid_unicode_utf8_first)] }
def FnExactAreAllOpenSaid : Prop := fnExactAreAllOpenRow.holds Tryd.pinned (OpenSpec.ofChange fnExactAreAllOpenSpec)

/-- ITS FALSE NEIGHBOUR: 'it returns false'. Refute it at one input. -/
def fnExactAreAllOpenWrong : ChangeSpec := { name := "fnExactAreAllOpen", fn := fun _ => fun
  | [d1, d2] => { results := [.lit (.bool false)], args := [d1, d2] }
  | _ => none }
def FnExactAreAllOpenWrongFalsely : Prop := fnExactAreAllOpenRow.holds Tryd.pinned (OpenSpec.ofChange fnExactAreAllOpenWrong)

/-- 'laws.FnExactNeedlessClicks': WHATEVER THE INPUT: true; the input reads as it did. -/
def fnExactNeedlessClicksSpec : ChangeSpec := { name := "fnExactNeedlessClicks", fn := fun _ => fun
  | [d1, d2] => { results := [.lit (.bool true)], args := [d1, d2] }
  | _ => none }
def fnExactNeedlessClicksRow : OpenClaim := { program := "ytcnjpejlobompaadoor", sum := "57a21d699cf359c4eab13aea473ba4ab87b4f474f812a835d9797e5706a5010c", func := "loop.example/g01294/laws.FnExactNeedlessClicks", spec := "fnExactNeedlessClicks", inPlace := ["internal/bytealg.CountString", "internal/bytealg.IndexByteString", "internal/bytealg.IndexString"], named := ["unicode/utf8.first", "unicode/utf8.acceptRanges", "internal/bytealg.MaxLen"], apart := false, laid := [("unicode/utf8.acceptRanges", laid_unicode_utf8_acceptRanges), ("unicode/utf8.first", laid_unicode_utf8_first)] }
def FnExactNeedlessClicksSaid : Prop := fnExactNeedlessClicksRow.holds Tryd.pinned (OpenSpec.ofChange fnExactNeedlessClicksSpec)

/-- ITS FALSE NEIGHBOUR: 'it returns false'. Refute it at one input. -/
def fnExactNeedlessClicksWrong : ChangeSpec := { name := "fnExactNeedlessClicks", fn := fun _ => fun
  | [d1, d2] => { results := [.lit (.bool false)], args := [d1, d2] }
  | _ => none }
def FnExactNeedlessClicksWrongFalsely : Prop := fnExactNeedlessClicksRow.holds Tryd.pinned (OpenSpec.ofChange fnExactNeedlessClicksWrong)

/-- 'laws.FnExactSeenAfter': WHATEVER THE INPUT: true; the input reads as it did. -/
def fnExactSeenAfterSpec : ChangeSpec := { name := "fnExactSeenAfter", fn := fun _ => fun
  | [d1, d2] => { results := [.lit (.bool true)], args := [d1, d2] }
  | _ => none }
def fnExactSeenAfterRow : OpenClaim := { program := "ytcnjpejlobompaadoor", sum := "57a21d699cf359c4eab13aea473ba4ab87b4f474f812a835d9797e5706a5010c", func := "loop.example/g01294/laws.FnExactSeenAfter", spec := "fnExactSeenAfter", inPlace := ["internal/bytealg.CountString", "internal/bytealg.IndexByteString", "internal/bytealg.IndexString", "internal/abi.NoEscape", "internal/bytealg.MakeNoZero"], recurses := true, named := ["unicode/utf8.first", "unicode/utf8.acceptRanges", "internal/bytealg.MaxLen"], apart := false, laid := [("unicode/utf8.acceptRanges", laid_unicode_utf8_acceptRanges), ("unicode/utf8.first", laid_unicode_utf8_first)] }
def FnExactSeenAfterSaid : Prop := fnExactSeenAfterRow.holds Tryd.pinned (OpenSpec.ofChange fnExactSeenAfterSpec)

/-- ITS FALSE NEIGHBOUR: 'it returns false'. Refute it at one input. -/
def fnExactSeenAfterWrong : ChangeSpec := { name := "fnExactSeenAfter", fn := fun _ => fun
  | [d1, d2] => { results := [.lit (.bool false)], args := [d1, d2] }
  | _ => none }
def FnExactSeenAfterWrongFalsely : Prop := fnExactSeenAfterRow.holds Tryd.pinned (OpenSpec.ofChange fnExactSeenAfterWrong)

/-- 'laws.FnExactLargestOpening': WHATEVER THE INPUT: true; the input reads as it did. -/
def fnExactLargestOpeningSpec : ChangeSpec := { name := "fnExactLargestOpening", fn := fun _ => fun
  | [d] => { results := [.lit (.bool true)], args := [d] }
  | _ => none }
def fnExactLargestOpeningRow : OpenClaim := { program := "ytcnjpejlobompaadoor", sum := "57a21d699cf359c4eab13aea473ba4ab87b4f474f812a835d9797e5706a5010c", func := "loop.example/g01294/laws.FnExactLargestOpening", spec := "fnExactLargestOpening", inPlace := ["internal/bytealg.CountString", "internal/bytealg.IndexByteString", "internal/bytealg.IndexString"], unfollowed := true, recurses := true, named := ["unicode/utf8.first", "unicode/utf8.acceptRanges", "internal/bytealg.MaxLen"], apart := false, laid := [("unicode/utf8.acceptRanges", laid_unicode_utf8_acceptRanges), ("unicode/utf8.first", laid_unicode_utf8_first)] }
def FnExactLargestOpeningSaid : Prop := fnExactLargestOpeningRow.holds Tryd.pinned (OpenSpec.ofChange fnExactLargestOpeningSpec)

/-- ITS FALSE NEIGHBOUR: 'it returns false'. Refute it at one input. -/
def fnExactLargestOpeningWrong : ChangeSpec := { name := "fnExactLargestOpening", fn := fun _ => fun
  | [d] => { results := [.lit (.bool false)], args := [d] }
  | _ => none }
def FnExactLargestOpeningWrongFalsely : Prop := fnExactLargestOpeningRow.holds Tryd.pinned (OpenSpec.ofChange fnExactLargestOpeningWrong)

/- THE SECOND FORM. 'bulk': how many values and letters a reading holds, each counted each time it is reached (what is shared counts as often as it is met; a slice's spare places count too). A statement '..UptoSaid' is the law's where the arguments, and the package variables that the reading takes, are together of bulk at most 1048576: NARROWER than '..Said'. Prove '..Said' where nothing that the law and all that it calls make is longer than what came in: it says more and counts as full. Else prove '..UptoSaid'. A law counts once. -/
mutual
def uptoBulk {H : Type} : DataW H → Nat
  | .lit (.string bytes) => bytes.length + 1
  | .lit _ => 1
  | .nil => 1
  | .ptr d => uptoBulk d + 1
  | .slice elems spare => uptoBulkAll elems + uptoBulkAll spare + 1
  | .agg parts => uptoBulkAll parts + 1
  | .iface _ d => uptoBulk d + 1
  | .map entries => uptoBulkEntries entries + 1
  | .held _ => 1
def uptoBulkAll {H : Type} : List (DataW H) → Nat
  | [] => 0
  | d :: r => uptoBulk d + uptoBulkAll r
def uptoBulkEntries {H : Type} : List (Lit × DataW H) → Nat
  | [] => 0
  | x :: r => uptoBulkEntry x + uptoBulkEntries r
def uptoBulkEntry {H : Type} : Lit × DataW H → Nat
  | (.string bytes, d) => bytes.length + uptoBulk d + 1
  | (_, d) => uptoBulk d + 1
 end
def uptoSmall : (H : Type) → List (DataW H) → Bool := fun _ ds => decide (uptoBulkAll ds ≤ 1048576)
def OpenSpec.upto (s : _root_.Go.ChangeSpec) : _root_.Go.OpenSpec := { _root_.Go.OpenSpec.ofChange s with cond := some uptoSmall }

/-- 'laws.FnExactOpenedBy', WHERE WHAT IT READS IS OF BULK AT MOST 1048576: true; the input reads as it did. -/
def fnExactOpenedByUptoRow : OpenClaim := { program := "ytcnjpejlobompaadoor", sum := "57a21d699cf359c4eab13aea473ba4ab87b4f474f812a835d9797e5706a5010c", func := "loop.example/g01294/laws.FnExactOpenedBy", spec := "fnExactOpenedBy", inPlace := ["internal/bytealg.CountString", "internal/bytealg.IndexByteString", "internal/bytealg.IndexString"], unfollowed := true, recurses := true, named := ["unicode/utf8.first", "unicode/utf8.acceptRanges", "internal/bytealg.MaxLen"], apart := false, laid := [("unicode/utf8.acceptRanges", laid_unicode_utf8_acceptRanges), ("unicode/utf8.first", laid_unicode_utf8_first)], narrowed := true }
def FnExactOpenedByUptoSaid : Prop := fnExactOpenedByUptoRow.holds Tryd.pinned (OpenSpec.upto fnExactOpenedBySpec)

/-- 'laws.FnExactOpeningsOf', WHERE WHAT IT READS IS OF BULK AT MOST 1048576: true; the input reads as it did. -/
def fnExactOpeningsOfUptoRow : OpenClaim := { program := "ytcnjpejlobompaadoor", sum := "57a21d699cf359c4eab13aea473ba4ab87b4f474f812a835d9797e5706a5010c", func := "loop.example/g01294/laws.FnExactOpeningsOf", spec := "fnExactOpeningsOf", inPlace := ["internal/bytealg.CountString", "internal/bytealg.IndexByteString", "internal/bytealg.IndexString"], unfollowed := true, recurses := true, named := ["unicode/utf8.first", "unicode/utf8.acceptRanges", "internal/bytealg.MaxLen"], apart := false, laid := [("unicode/utf8.acceptRanges", laid_unicode_utf8_acceptRanges), ("unicode/utf8.first", laid_unicode_utf8_first)], narrowed := true }
def FnExactOpeningsOfUptoSaid : Prop := fnExactOpeningsOfUptoRow.holds Tryd.pinned (OpenSpec.upto fnExactOpeningsOfSpec)

/-- 'laws.FnExactCountOpenings', WHERE WHAT IT READS IS OF BULK AT MOST 1048576: true; the input reads as it did. -/
def fnExactCountOpeningsUptoRow : OpenClaim := { program := "ytcnjpejlobompaadoor", sum := "57a21d699cf359c4eab13aea473ba4ab87b4f474f812a835d9797e5706a5010c", func := "loop.example/g01294/laws.FnExactCountOpenings", spec := "fnExactCountOpenings", inPlace := ["internal/bytealg.CountString", "internal/bytealg.IndexByteString", "internal/bytealg.IndexString"], named := ["unicode/utf8.first", "unicode/utf8.acceptRanges", "internal/bytealg.MaxLen"], apart := false, laid := [("unicode/utf8.acceptRanges", laid_unicode_utf8_acceptRanges), ("unicode/utf8.first", laid_unicode_utf8_first)], narrowed := true }
def FnExactCountOpeningsUptoSaid : Prop := fnExactCountOpeningsUptoRow.holds Tryd.pinned (OpenSpec.upto fnExactCountOpeningsSpec)

/-- 'laws.FnExactEdgeOfOpening', WHERE WHAT IT READS IS OF BULK AT MOST 1048576: true; the input reads as it did. -/
def fnExactEdgeOfOpeningUptoRow : OpenClaim := { program := "ytcnjpejlobompaadoor", sum := "57a21d699cf359c4eab13aea473ba4ab87b4f474f812a835d9797e5706a5010c", func := "loop.example/g01294/laws.FnExactEdgeOfOpening", spec := "fnExactEdgeOfOpening", inPlace := ["internal/bytealg.CountString", "internal/bytealg.IndexByteString", "internal/bytealg.IndexString"], unfollowed := true, recurses := true, named := ["unicode/utf8.first", "unicode/utf8.acceptRanges", "internal/bytealg.MaxLen"], apart := false, laid := [("unicode/utf8.acceptRanges", laid_unicode_utf8_acceptRanges), ("unicode/utf8.first", laid_unicode_utf8_first)], narrowed := true }
def FnExactEdgeOfOpeningUptoSaid : Prop := fnExactEdgeOfOpeningUptoRow.holds Tryd.pinned (OpenSpec.upto fnExactEdgeOfOpeningSpec)

/-- 'laws.FnExactCellsAlone', WHERE WHAT IT READS IS OF BULK AT MOST 1048576: true; the input reads as it did. -/
def fnExactCellsAloneUptoRow : OpenClaim := { program := "ytcnjpejlobompaadoor", sum := "57a21d699cf359c4eab13aea473ba4ab87b4f474f812a835d9797e5706a5010c", func := "loop.example/g01294/laws.FnExactCellsAlone", spec := "fnExactCellsAlone", inPlace := ["internal/bytealg.CountString", "internal/bytealg.IndexByteString", "internal/bytealg.IndexString"], unfollowed := true, recurses := true, named := ["unicode/utf8.first", "unicode/utf8.acceptRanges", "internal/bytealg.MaxLen"], apart := false, laid := [("unicode/utf8.acceptRanges", laid_unicode_utf8_acceptRanges), ("unicode/utf8.first", laid_unicode_utf8_first)], narrowed := true }
def FnExactCellsAloneUptoSaid : Prop := fnExactCellsAloneUptoRow.holds Tryd.pinned (OpenSpec.upto fnExactCellsAloneSpec)

/-- 'laws.FnExactFewestClicks', WHERE WHAT IT READS IS OF BULK AT MOST 1048576: true; the input reads as it did. -/
def fnExactFewestClicksUptoRow : OpenClaim := { program := "ytcnjpejlobompaadoor", sum := "57a21d699cf359c4eab13aea473ba4ab87b4f474f812a835d9797e5706a5010c", func := "loop.example/g01294/laws.FnExactFewestClicks", spec := "fnExactFewestClicks", inPlace := ["internal/bytealg.CountString", "internal/bytealg.IndexByteString", "internal/bytealg.IndexString"], unfollowed := true, recurses := true, named := ["unicode/utf8.first", "unicode/utf8.acceptRanges", "internal/bytealg.MaxLen"], apart := false, laid := [("unicode/utf8.acceptRanges", laid_unicode_utf8_acceptRanges), ("unicode/utf8.first", laid_unicode_utf8_first)], narrowed := true }
def FnExactFewestClicksUptoSaid : Prop := fnExactFewestClicksUptoRow.holds Tryd.pinned (OpenSpec.upto fnExactFewestClicksSpec)

/-- 'laws.FnExactFirstClicks', WHERE WHAT IT READS IS OF BULK AT MOST 1048576: true; the input reads as it did. -/
def fnExactFirstClicksUptoRow : OpenClaim := { program := "ytcnjpejlobompaadoor", sum := "57a21d699cf359c4eab13aea473ba4ab87b4f474f812a835d9797e5706a5010c", func := "loop.example/g01294/laws.FnExactFirstClicks", spec := "fnExactFirstClicks", inPlace := ["internal/bytealg.CountString", "internal/bytealg.IndexByteString", "internal/bytealg.IndexString"], unfollowed := true, recurses := true, named := ["unicode/utf8.first", "unicode/utf8.acceptRanges", "internal/bytealg.MaxLen"], apart := false, laid := [("unicode/utf8.acceptRanges", laid_unicode_utf8_acceptRanges), ("unicode/utf8.first", laid_unicode_utf8_first)], narrowed := true }
def FnExactFirstClicksUptoSaid : Prop := fnExactFirstClicksUptoRow.holds Tryd.pinned (OpenSpec.upto fnExactFirstClicksSpec)

/-- 'laws.FnExactOpenAfter', WHERE WHAT IT READS IS OF BULK AT MOST 1048576: true; the input reads as it did. -/
def fnExactOpenAfterUptoRow : OpenClaim := { program := "ytcnjpejlobompaadoor", sum := "57a21d699cf359c4eab13aea473ba4ab87b4f474f812a835d9797e5706a5010c", func := "loop.example/g01294/laws.FnExactOpenAfter", spec := "fnExactOpenAfter", inPlace := ["internal/bytealg.CountString", "internal/bytealg.IndexByteString", "internal/bytealg.IndexString"], unfollowed := true, recurses := true, named := ["unicode/utf8.first", "unicode/utf8.acceptRanges", "internal/bytealg.MaxLen"], apart := false, laid := [("unicode/utf8.acceptRanges", laid_unicode_utf8_acceptRanges), ("unicode/utf8.first", laid_unicode_utf8_first)], narrowed := true }
def FnExactOpenAfterUptoSaid : Prop := fnExactOpenAfterUptoRow.holds Tryd.pinned (OpenSpec.upto fnExactOpenAfterSpec)

/-- 'laws.FnExactAreAllOpen', WHERE WHAT IT READS IS OF BULK AT MOST 1048576: true; the input reads as it did. -/
def fnExactAreAllOpenUptoRow : OpenClaim := { program := "ytcnjpejlobompaadoor", sum := "57a21d699cf359c4eab13aea473ba4ab87b4f474f812a835d9797e5706a5010c", func := "loop.example/g01294/laws.FnExactAreAllOpen", spec := "fnExactAreAllOpen", inPlace := ["internal/bytealg.CountString", "internal/bytealg.IndexByteString", "internal/bytealg.IndexString"], unfollowed := true, recurses := true, named := ["unicode/utf8.first", "unicode/utf8.acceptRanges", "internal/bytealg.MaxLen"], apart := false, laid := [("unicode/utf8.acceptRanges", laid_unicode_utf8_acceptRanges), ("unicode/utf8.first", laid_unicode_utf8_first)], narrowed := true }
def FnExactAreAllOpenUptoSaid : Prop := fnExactAreAllOpenUptoRow.holds Tryd.pinned (OpenSpec.upto fnExactAreAllOpenSpec)

/-- 'laws.FnExactNeedlessClicks', WHERE WHAT IT READS IS OF BULK AT MOST 1048576: true; the input reads as it did. -/
def fnExactNeedlessClicksUptoRow : OpenClaim := { program := "ytcnjpejlobompaadoor", sum := "57a21d699cf359c4eab13aea473ba4ab87b4f474f812a835d9797e5706a5010c", func := "loop.example/g01294/laws.FnExactNeedlessClicks", spec := "fnExactNeedlessClicks", inPlace := ["internal/bytealg.CountString", "internal/bytealg.IndexByteString", "internal/bytealg.IndexString"], named := ["unicode/utf8.first", "unicode/utf8.acceptRanges", "internal/bytealg.MaxLen"], apart := false, laid := [("unicode/utf8.acceptRanges", laid_unicode_utf8_acceptRanges), ("unicode/utf8.first", laid_unicode_utf8_first)], narrowed := true }
def FnExactNeedlessClicksUptoSaid : Prop := fnExactNeedlessClicksUptoRow.holds Tryd.pinned (OpenSpec.upto fnExactNeedlessClicksSpec)

/-- 'laws.FnExactSeenAfter', WHERE WHAT IT READS IS OF BULK AT MOST 1048576: true; the input reads as it did. -/
def fnExactSeenAfterUptoRow : OpenClaim := { program := "ytcnjpejlobompaadoor", sum := "57a21d699cf359c4eab13aea473ba4ab87b4f474f812a835d9797e5706a5010c", func := "loop.example/g01294/laws.FnExactSeenAfter", spec := "fnExactSeenAfter", inPlace := ["internal/bytealg.CountString", "internal/bytealg.IndexByteString", "internal/bytealg.IndexString", "internal/abi.NoEscape", "internal/bytealg.MakeNoZero"], recurses := true, named := ["unicode/utf8.first", "unicode/utf8.acceptRanges", "internal/bytealg.MaxLen"], apart := false, laid := [("unicode/utf8.acceptRanges", laid_unicode_utf8_acceptRanges), ("unicode/utf8.first", laid_unicode_utf8_first)], narrowed := true }
def FnExactSeenAfterUptoSaid : Prop := fnExactSeenAfterUptoRow.holds Tryd.pinned (OpenSpec.upto fnExactSeenAfterSpec)

/-- 'laws.FnExactLargestOpening', WHERE WHAT IT READS IS OF BULK AT MOST 1048576: true; the input reads as it did. -/
def fnExactLargestOpeningUptoRow : OpenClaim := { program := "ytcnjpejlobompaadoor", sum := "57a21d699cf359c4eab13aea473ba4ab87b4f474f812a835d9797e5706a5010c", func := "loop.example/g01294/laws.FnExactLargestOpening", spec := "fnExactLargestOpening", inPlace := ["internal/bytealg.CountString", "internal/bytealg.IndexByteString", "internal/bytealg.IndexString"], unfollowed := true, recurses := true, named := ["unicode/utf8.first", "unicode/utf8.acceptRanges", "internal/bytealg.MaxLen"], apart := false, laid := [("unicode/utf8.acceptRanges", laid_unicode_utf8_acceptRanges), ("unicode/utf8.first", laid_unicode_utf8_first)], narrowed := true }
def FnExactLargestOpeningUptoSaid : Prop := fnExactLargestOpeningUptoRow.holds Tryd.pinned (OpenSpec.upto fnExactLargestOpeningSpec)

end Rows
end Go.Proofs.YtcnjpejlobompaaDoor
