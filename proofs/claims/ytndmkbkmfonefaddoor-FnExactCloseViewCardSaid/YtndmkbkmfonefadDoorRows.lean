/-
  NARROWER THAN 'FOR EVERY INPUT', by the rows' own cells (each row's printed sentence says how): FnExactOpenAfter: laid · FnExactAreAllOpen: laid · FnExactNeedlessClicks: laid · FnExactSeenAfter: laid · FnExactIsView: laid · FnExactHiddenCells: laid · FnExactViewOf: laid · FnExactDoesFitView: laid · FnExactOpenCell: laid · FnExactCloseView: laid.
  DERIVED. THE GIVEN ROWS OF THIS SEAT. 10 by the template 'for every input the law returns true; each argument reads behind the call as it read before'; 0 by the template 'total and deterministic' (their statements: YtndmkbkmfonefadDoorTotals.lean).
  GIVEN WITH THE SEED: the statements are not yours to turn. If you find one false, say at which input.
  Laid BY PROGRAM, IN A SANDBOX (cutbox-rows.mjs): the forced cells as the released guide's own fill.sh prints them over the translation e2f94b61522189d8… (all of the seat's roots in one cut). By AI agents, Wed Nov 11 2026. No macro, syntax, notation, axiom, sorry.
-/
import Derived.Test.YtndmkbkmfonefadDoorChecked
import GoSem.PinnedTables
import GoSem.Claim
import GoSem.ClaimJoined
import GoSem.ClaimMapViews
import Derived.JoinedTies
import Derived.KernelRfl
namespace Go.Proofs.YtndmkbkmfonefadDoor
/- THE CELL 'sum', in the pinned program and in every row, IS THE sha256 OF THE DUMP (.gsa) THAT YtndmkbkmfonefadDoorProg.lean LOADS. Nothing in Lean hashes anything: it is a label: what it is worth is what the hold of that sum in a sandbox is worth. -/
noncomputable def Tryd.pinned : Pinned := { name := "ytndmkbkmfonefaddoor", sum := "e2f94b61522189d8ff5e2f0c98c501039fb457a129eb1c2f1971c3d59af91cea", checked := Tryd.checked }
namespace Rows
def none {H : Type} : Left H := { results := [], args := [] }

/- WHAT THE LISTED PACKAGE-LEVEL VARIABLES READ AS WHEN THE CALL BEGINS. Each datum BY PROGRAM (the guide's laid-datum.mjs) off the statement by which the dump's own 'gosem.cut.vars' lays the variable. In a bare row this is a premise. The card (YtndmkbkmfonefadDoorCards.lean) ties it to the program's text. -/
def laid_unicode_utf8_acceptRanges {H : Type} : DataW H := .agg [.agg [.lit (.int .u8 128), .lit (.int .u8 191)], .agg [.lit (.int .u8 160), .lit (.int .u8 191)], .agg [.lit (.int .u8 128), .lit (.int .u8 159)], .agg [.lit (.int .u8 144), .lit (.int .u8 191)], .agg [.lit (.int .u8 128), .lit (.int .u8 143)], .agg [.lit (.int .u8 0), .lit (.int .u8 0)], .agg [.lit (.int .u8 0), .lit (.int .u8 0)], .agg [.lit (.int .u8 0), .lit (.int .u8 0)], .agg [.lit (.int .u8 0), .lit (.int .u8 0)], .agg [.lit (.int .u8 0), .lit (.int .u8 0)], .agg [.lit (.int .u8 0), .lit (.int .u8 0)], .agg [.lit (.int .u8 0), .lit (.int .u8 0)], .agg [.lit (.int .u8 0), .lit (.int .u8 0)], .agg [.lit (.int .u8 0), .lit (.int .u8 0)], .agg [.lit (.int .u8 0), .lit (.int .u8 0)], .agg [.lit (.int .u8 0), .lit (.int .u8 0)]]
/-- One of Go's own tables, pinned by name: the form's constant. -/
def laid_unicode_utf8_first : DataW Unit := Go.Pinned.utf8First

/-- 'laws.FnExactOpenAfter': WHATEVER THE INPUT: true; the input reads as it did. -/
def fnExactOpenAfterSpec : ChangeSpec := { name := "fnExactOpenAfter", fn := fun _ => fun
  | [d1, d2] => { results := [.lit (.bool true)], args := [d1, d2] }
  | _ => none }
def fnExactOpenAfterRow : OpenClaim := { program := "ytndmkbkmfonefaddoor", sum := "e2f94b61522189d8ff5e2f0c98c501039fb457a129eb1c2f1971c3d59af91cea", func := "loop.example/g01294/laws.FnExactOpenAfter", spec := "fnExactOpenAfter", inPlace := ["internal/bytealg.CountString", "internal/bytealg.IndexByteString", "internal/bytealg.IndexString"], unfollowed := true, recurses := true, named := ["unicode/utf8.first", "unicode/utf8.acceptRanges", "internal/bytealg.MaxLen"], apart := false, laid := [("unicode/utf8.acceptRanges", laid_unicode_utf8_acceptRanges), ("unicode/utf8.first", laid_unicode_utf8_first)] }
def FnExactOpenAfterSaid : Prop := fnExactOpenAfterRow.holds Tryd.pinned (OpenSpec.ofChange fnExactOpenAfterSpec)

/-- ITS FALSE NEIGHBOUR: 'it returns false'. Refute it at one input. -/
def fnExactOpenAfterWrong : ChangeSpec := { name := "fnExactOpenAfter", fn := fun _ => fun
  | [d1, d2] => { results := [.lit (.bool false)], args := [d1, d2] }
  | _ => none }
def FnExactOpenAfterWrongFalsely : Prop := fnExactOpenAfterRow.holds Tryd.pinned (OpenSpec.ofChange fnExactOpenAfterWrong)

/-- 'laws.FnExactAreAllOpen': WHATEVER THE INPUT: true; the input reads as it did. -/
def fnExactAreAllOpenSpec : ChangeSpec := { name := "fnExactAreAllOpen", fn := fun _ => fun
  | [d1, d2] => { results := [.lit (.bool true)], args := [d1, d2] }
  | _ => none }
def fnExactAreAllOpenRow : OpenClaim := { program := "ytndmkbkmfonefaddoor", sum := "e2f94b61522189d8ff5e2f0c98c501039fb457a129eb1c2f1971c3d59af91cea", func := "loop.example/g01294/laws.FnExactAreAllOpen", spec := "fnExactAreAllOpen", inPlace := ["internal/bytealg.CountString", "internal/bytealg.IndexByteString", "internal/bytealg.IndexString"], unfollowed := true, recurses := true, named := ["unicode/utf8.first", "unicode/utf8.acceptRanges", "internal/bytealg.MaxLen"], apart := false, laid := [("unicode/utf8.acceptRanges", laid_unicode_utf8_acceptRanges), ("unicode/utf8.first", laid_unicode_utf8_first)] }
def FnExactAreAllOpenSaid : Prop := fnExactAreAllOpenRow.holds Tryd.pinned (OpenSpec.ofChange fnExactAreAllOpenSpec)

/-- ITS FALSE NEIGHBOUR: 'it returns false'. Refute it at one input. -/
def fnExactAreAllOpenWrong : ChangeSpec := { name := "fnExactAreAllOpen", fn := fun _ => fun
  | [d1, d2] => { results := [.lit (.bool false)], args := [d1, d2] }
  | _ => none }
def FnExactAreAllOpenWrongFalsely : Prop := fnExactAreAllOpenRow.holds Tryd.pinned (OpenSpec.ofChange fnExactAreAllOpenWrong)

/-- 'laws.FnExactNeedlessClicks': WHATEVER THE INPUT: true; the input reads as it did. -/
def fnExactNeedlessClicksSpec : ChangeSpec := { name := "fnExactNeedlessClicks", fn := fun _ => fun
  | [d1, d2] => { results := [.lit (.bool true)], args := [d1, d2] }
  | _ => none }
def fnExactNeedlessClicksRow : OpenClaim := { program := "ytndmkbkmfonefaddoor", sum := "e2f94b61522189d8ff5e2f0c98c501039fb457a129eb1c2f1971c3d59af91cea", func := "loop.example/g01294/laws.FnExactNeedlessClicks", spec := "fnExactNeedlessClicks", inPlace := ["internal/bytealg.CountString", "internal/bytealg.IndexByteString", "internal/bytealg.IndexString"], unfollowed := true, recurses := true, named := ["unicode/utf8.first", "unicode/utf8.acceptRanges", "internal/bytealg.MaxLen"], apart := false, laid := [("unicode/utf8.acceptRanges", laid_unicode_utf8_acceptRanges), ("unicode/utf8.first", laid_unicode_utf8_first)] }
def FnExactNeedlessClicksSaid : Prop := fnExactNeedlessClicksRow.holds Tryd.pinned (OpenSpec.ofChange fnExactNeedlessClicksSpec)

/-- ITS FALSE NEIGHBOUR: 'it returns false'. Refute it at one input. -/
def fnExactNeedlessClicksWrong : ChangeSpec := { name := "fnExactNeedlessClicks", fn := fun _ => fun
  | [d1, d2] => { results := [.lit (.bool false)], args := [d1, d2] }
  | _ => none }
def FnExactNeedlessClicksWrongFalsely : Prop := fnExactNeedlessClicksRow.holds Tryd.pinned (OpenSpec.ofChange fnExactNeedlessClicksWrong)

/-- 'laws.FnExactSeenAfter': WHATEVER THE INPUT: true; the input reads as it did. -/
def fnExactSeenAfterSpec : ChangeSpec := { name := "fnExactSeenAfter", fn := fun _ => fun
  | [d1, d2] => { results := [.lit (.bool true)], args := [d1, d2] }
  | _ => none }
def fnExactSeenAfterRow : OpenClaim := { program := "ytndmkbkmfonefaddoor", sum := "e2f94b61522189d8ff5e2f0c98c501039fb457a129eb1c2f1971c3d59af91cea", func := "loop.example/g01294/laws.FnExactSeenAfter", spec := "fnExactSeenAfter", inPlace := ["internal/bytealg.CountString", "internal/bytealg.IndexByteString", "internal/bytealg.IndexString", "internal/abi.NoEscape", "internal/bytealg.MakeNoZero"], unfollowed := true, recurses := true, named := ["unicode/utf8.first", "unicode/utf8.acceptRanges", "internal/bytealg.MaxLen"], apart := false, laid := [("unicode/utf8.acceptRanges", laid_unicode_utf8_acceptRanges), ("unicode/utf8.first", laid_unicode_utf8_first)] }
def FnExactSeenAfterSaid : Prop := fnExactSeenAfterRow.holds Tryd.pinned (OpenSpec.ofChange fnExactSeenAfterSpec)

/-- ITS FALSE NEIGHBOUR: 'it returns false'. Refute it at one input. -/
def fnExactSeenAfterWrong : ChangeSpec := { name := "fnExactSeenAfter", fn := fun _ => fun
  | [d1, d2] => { results := [.lit (.bool false)], args := [d1, d2] }
  | _ => none }
def FnExactSeenAfterWrongFalsely : Prop := fnExactSeenAfterRow.holds Tryd.pinned (OpenSpec.ofChange fnExactSeenAfterWrong)

/-- 'laws.FnExactIsView': WHATEVER THE INPUT: true; the input reads as it did. -/
def fnExactIsViewSpec : ChangeSpec := { name := "fnExactIsView", fn := fun _ => fun
  | [d] => { results := [.lit (.bool true)], args := [d] }
  | _ => none }
def fnExactIsViewRow : OpenClaim := { program := "ytndmkbkmfonefaddoor", sum := "e2f94b61522189d8ff5e2f0c98c501039fb457a129eb1c2f1971c3d59af91cea", func := "loop.example/g01294/laws.FnExactIsView", spec := "fnExactIsView", inPlace := ["internal/bytealg.CountString", "internal/bytealg.IndexByteString", "internal/bytealg.IndexString"], unfollowed := true, recurses := true, named := ["unicode/utf8.first", "unicode/utf8.acceptRanges", "internal/bytealg.MaxLen"], apart := false, laid := [("unicode/utf8.acceptRanges", laid_unicode_utf8_acceptRanges), ("unicode/utf8.first", laid_unicode_utf8_first)] }
def FnExactIsViewSaid : Prop := fnExactIsViewRow.holds Tryd.pinned (OpenSpec.ofChange fnExactIsViewSpec)

/-- ITS FALSE NEIGHBOUR: 'it returns false'. Refute it at one input. -/
def fnExactIsViewWrong : ChangeSpec := { name := "fnExactIsView", fn := fun _ => fun
  | [d] => { results := [.lit (.bool false)], args := [d] }
  | _ => none }
def FnExactIsViewWrongFalsely : Prop := fnExactIsViewRow.holds Tryd.pinned (OpenSpec.ofChange fnExactIsViewWrong)

/-- 'laws.FnExactHiddenCells': WHATEVER THE INPUT: true; the input reads as it did. -/
def fnExactHiddenCellsSpec : ChangeSpec := { name := "fnExactHiddenCells", fn := fun _ => fun
  | [d] => { results := [.lit (.bool true)], args := [d] }
  | _ => none }
def fnExactHiddenCellsRow : OpenClaim := { program := "ytndmkbkmfonefaddoor", sum := "e2f94b61522189d8ff5e2f0c98c501039fb457a129eb1c2f1971c3d59af91cea", func := "loop.example/g01294/laws.FnExactHiddenCells", spec := "fnExactHiddenCells", inPlace := ["internal/bytealg.CountString", "internal/bytealg.IndexByteString", "internal/bytealg.IndexString"], unfollowed := true, recurses := true, named := ["unicode/utf8.first", "unicode/utf8.acceptRanges", "internal/bytealg.MaxLen"], apart := false, laid := [("unicode/utf8.acceptRanges", laid_unicode_utf8_acceptRanges), ("unicode/utf8.first", laid_unicode_utf8_first)] }
def FnExactHiddenCellsSaid : Prop := fnExactHiddenCellsRow.holds Tryd.pinned (OpenSpec.ofChange fnExactHiddenCellsSpec)

/-- ITS FALSE NEIGHBOUR: 'it returns false'. Refute it at one input. -/
def fnExactHiddenCellsWrong : ChangeSpec := { name := "fnExactHiddenCells", fn := fun _ => fun
  | [d] => { results := [.lit (.bool false)], args := [d] }
  | _ => none }
def FnExactHiddenCellsWrongFalsely : Prop := fnExactHiddenCellsRow.holds Tryd.pinned (OpenSpec.ofChange fnExactHiddenCellsWrong)

/-- 'laws.FnExactViewOf': WHATEVER THE INPUT: true; the input reads as it did. -/
def fnExactViewOfSpec : ChangeSpec := { name := "fnExactViewOf", fn := fun _ => fun
  | [d1, d2] => { results := [.lit (.bool true)], args := [d1, d2] }
  | _ => none }
def fnExactViewOfRow : OpenClaim := { program := "ytndmkbkmfonefaddoor", sum := "e2f94b61522189d8ff5e2f0c98c501039fb457a129eb1c2f1971c3d59af91cea", func := "loop.example/g01294/laws.FnExactViewOf", spec := "fnExactViewOf", inPlace := ["internal/bytealg.CountString", "internal/bytealg.IndexByteString", "internal/bytealg.IndexString", "internal/abi.NoEscape", "internal/bytealg.MakeNoZero"], unfollowed := true, recurses := true, named := ["unicode/utf8.first", "unicode/utf8.acceptRanges", "internal/bytealg.MaxLen"], apart := false, laid := [("unicode/utf8.acceptRanges", laid_unicode_utf8_acceptRanges), ("unicode/utf8.first", laid_unicode_utf8_first)] }
def FnExactViewOfSaid : Prop := fnExactViewOfRow.holds Tryd.pinned (OpenSpec.ofChange fnExactViewOfSpec)

/-- ITS FALSE NEIGHBOUR: 'it returns false'. Refute it at one input. -/
def fnExactViewOfWrong : ChangeSpec := { name := "fnExactViewOf", fn := fun _ => fun
  | [d1, d2] => { results := [.lit (.bool false)], args := [d1, d2] }
  | _ => none }
def FnExactViewOfWrongFalsely : Prop := fnExactViewOfRow.holds Tryd.pinned (OpenSpec.ofChange fnExactViewOfWrong)

/-- 'laws.FnExactDoesFitView': WHATEVER THE INPUT: true; the input reads as it did. -/
def fnExactDoesFitViewSpec : ChangeSpec := { name := "fnExactDoesFitView", fn := fun _ => fun
  | [d1, d2] => { results := [.lit (.bool true)], args := [d1, d2] }
  | _ => none }
def fnExactDoesFitViewRow : OpenClaim := { program := "ytndmkbkmfonefaddoor", sum := "e2f94b61522189d8ff5e2f0c98c501039fb457a129eb1c2f1971c3d59af91cea", func := "loop.example/g01294/laws.FnExactDoesFitView", spec := "fnExactDoesFitView", inPlace := ["internal/bytealg.CountString", "internal/bytealg.IndexByteString", "internal/bytealg.IndexString"], unfollowed := true, recurses := true, named := ["unicode/utf8.first", "unicode/utf8.acceptRanges", "internal/bytealg.MaxLen"], apart := false, laid := [("unicode/utf8.acceptRanges", laid_unicode_utf8_acceptRanges), ("unicode/utf8.first", laid_unicode_utf8_first)] }
def FnExactDoesFitViewSaid : Prop := fnExactDoesFitViewRow.holds Tryd.pinned (OpenSpec.ofChange fnExactDoesFitViewSpec)

/-- ITS FALSE NEIGHBOUR: 'it returns false'. Refute it at one input. -/
def fnExactDoesFitViewWrong : ChangeSpec := { name := "fnExactDoesFitView", fn := fun _ => fun
  | [d1, d2] => { results := [.lit (.bool false)], args := [d1, d2] }
  | _ => none }
def FnExactDoesFitViewWrongFalsely : Prop := fnExactDoesFitViewRow.holds Tryd.pinned (OpenSpec.ofChange fnExactDoesFitViewWrong)

/-- 'laws.FnExactOpenCell': WHATEVER THE INPUT: true; the input reads as it did. -/
def fnExactOpenCellSpec : ChangeSpec := { name := "fnExactOpenCell", fn := fun _ => fun
  | [d1, d2, d3] => { results := [.lit (.bool true)], args := [d1, d2, d3] }
  | _ => none }
def fnExactOpenCellRow : OpenClaim := { program := "ytndmkbkmfonefaddoor", sum := "e2f94b61522189d8ff5e2f0c98c501039fb457a129eb1c2f1971c3d59af91cea", func := "loop.example/g01294/laws.FnExactOpenCell", spec := "fnExactOpenCell", inPlace := ["internal/bytealg.CountString", "internal/bytealg.IndexByteString", "internal/bytealg.IndexString", "internal/abi.NoEscape", "internal/bytealg.MakeNoZero"], unfollowed := true, recurses := true, named := ["unicode/utf8.first", "unicode/utf8.acceptRanges", "internal/bytealg.MaxLen"], apart := false, laid := [("unicode/utf8.acceptRanges", laid_unicode_utf8_acceptRanges), ("unicode/utf8.first", laid_unicode_utf8_first)] }
def FnExactOpenCellSaid : Prop := fnExactOpenCellRow.holds Tryd.pinned (OpenSpec.ofChange fnExactOpenCellSpec)

/-- ITS FALSE NEIGHBOUR: 'it returns false'. Refute it at one input. -/
def fnExactOpenCellWrong : ChangeSpec := { name := "fnExactOpenCell", fn := fun _ => fun
  | [d1, d2, d3] => { results := [.lit (.bool false)], args := [d1, d2, d3] }
  | _ => none }
def FnExactOpenCellWrongFalsely : Prop := fnExactOpenCellRow.holds Tryd.pinned (OpenSpec.ofChange fnExactOpenCellWrong)

/-- 'laws.FnExactCloseView': WHATEVER THE INPUT: true; the input reads as it did. -/
def fnExactCloseViewSpec : ChangeSpec := { name := "fnExactCloseView", fn := fun _ => fun
  | [d1, d2] => { results := [.lit (.bool true)], args := [d1, d2] }
  | _ => none }
def fnExactCloseViewRow : OpenClaim := { program := "ytndmkbkmfonefaddoor", sum := "e2f94b61522189d8ff5e2f0c98c501039fb457a129eb1c2f1971c3d59af91cea", func := "loop.example/g01294/laws.FnExactCloseView", spec := "fnExactCloseView", inPlace := ["internal/bytealg.CountString", "internal/bytealg.IndexByteString", "internal/bytealg.IndexString", "internal/abi.NoEscape", "internal/bytealg.MakeNoZero"], unfollowed := true, recurses := true, named := ["unicode/utf8.first", "unicode/utf8.acceptRanges", "internal/bytealg.MaxLen"], apart := false, laid := [("unicode/utf8.acceptRanges", laid_unicode_utf8_acceptRanges), ("unicode/utf8.first", laid_unicode_utf8_first)] }
def FnExactCloseViewSaid : Prop := fnExactCloseViewRow.holds Tryd.pinned (OpenSpec.ofChange fnExactCloseViewSpec)

/-- ITS FALSE NEIGHBOUR: 'it returns false'. Refute it at one input. -/
def fnExactCloseViewWrong : ChangeSpec := { name := "fnExactCloseView", fn := fun _ => fun
  | [d1, d2] => { results := [.lit (.bool false)], args := [d1, d2] }
  | _ => none }
def FnExactCloseViewWrongFalsely : Prop := fnExactCloseViewRow.holds Tryd.pinned (OpenSpec.ofChange fnExactCloseViewWrong)

/- THE SECOND FORM. 'bulk': how many values and letters a reading holds, each counted each time it is reached (what is shared counts as often as it is met; a slice's spare places count too). A statement '..UptoSaid' is the law's where the arguments, and the package variables that the reading takes, are together of bulk at most 1048576: NARROWER than '..Said'. Prove '..Said' where nothing that the law and all that it calls make is longer than what came in: it says more and counts as full. Else prove '..UptoSaid'. A law counts once. -/
mutual
def uptoBulk {H : Type} : DataW H → Nat
  | .lit (.string bytes) => bytes.length + 1
  | .lit _ => 1
  | .nil => 1
  | .ptr d => uptoBulk d + 1
  | .slice elems spare => uptoBulkAll elems + uptoBulkAll spare + 1
  | .agg parts => uptoBulkAll parts + 1
  | .iface _ d => uptoBulk d + 1
  | .map entries => uptoBulkEntries entries + 1
  | .held _ => 1
def uptoBulkAll {H : Type} : List (DataW H) → Nat
  | [] => 0
  | d :: r => uptoBulk d + uptoBulkAll r
def uptoBulkEntries {H : Type} : List (Lit × DataW H) → Nat
  | [] => 0
  | x :: r => uptoBulkEntry x + uptoBulkEntries r
def uptoBulkEntry {H : Type} : Lit × DataW H → Nat
  | (.string bytes, d) => bytes.length + uptoBulk d + 1
  | (_, d) => uptoBulk d + 1
 end
def uptoSmall : (H : Type) → List (DataW H) → Bool := fun _ ds => decide (uptoBulkAll ds ≤ 1048576)
def OpenSpec.upto (s : _root_.Go.ChangeSpec) : _root_.Go.OpenSpec := { _root_.Go.OpenSpec.ofChange s with cond := some uptoSmall }

/-- 'laws.FnExactOpenAfter', WHERE WHAT IT READS IS OF BULK AT MOST 1048576: true; the input reads as it did. -/
def fnExactOpenAfterUptoRow : OpenClaim := { program := "ytndmkbkmfonefaddoor", sum := "e2f94b61522189d8ff5e2f0c98c501039fb457a129eb1c2f1971c3d59af91cea", func := "loop.example/g01294/laws.FnExactOpenAfter", spec := "fnExactOpenAfter", inPlace := ["internal/bytealg.CountString", "internal/bytealg.IndexByteString", "internal/bytealg.IndexString"], unfollowed := true, recurses := true, named := ["unicode/utf8.first", "unicode/utf8.acceptRanges", "internal/bytealg.MaxLen"], apart := false, laid := [("unicode/utf8.acceptRanges", laid_unicode_utf8_acceptRanges), ("unicode/utf8.first", laid_unicode_utf8_first)], narrowed := true }
def FnExactOpenAfterUptoSaid : Prop := fnExactOpenAfterUptoRow.holds Tryd.pinned (OpenSpec.upto fnExactOpenAfterSpec)

/-- 'laws.FnExactAreAllOpen', WHERE WHAT IT READS IS OF BULK AT MOST 1048576: true; the input reads as it did. -/
def fnExactAreAllOpenUptoRow : OpenClaim := { program := "ytndmkbkmfonefaddoor", sum := "e2f94b61522189d8ff5e2f0c98c501039fb457a129eb1c2f1971c3d59af91cea", func := "loop.example/g01294/laws.FnExactAreAllOpen", spec := "fnExactAreAllOpen", inPlace := ["internal/bytealg.CountString", "internal/bytealg.IndexByteString", "internal/bytealg.IndexString"], unfollowed := true, recurses := true, named := ["unicode/utf8.first", "unicode/utf8.acceptRanges", "internal/bytealg.MaxLen"], apart := false, laid := [("unicode/utf8.acceptRanges", laid_unicode_utf8_acceptRanges), ("unicode/utf8.first", laid_unicode_utf8_first)], narrowed := true }
def FnExactAreAllOpenUptoSaid : Prop := fnExactAreAllOpenUptoRow.holds Tryd.pinned (OpenSpec.upto fnExactAreAllOpenSpec)

/-- 'laws.FnExactNeedlessClicks', WHERE WHAT IT READS IS OF BULK AT MOST 1048576: true; the input reads as it did. -/
def fnExactNeedlessClicksUptoRow : OpenClaim := { program := "ytndmkbkmfonefaddoor", sum := "e2f94b61522189d8ff5e2f0c98c501039fb457a129eb1c2f1971c3d59af91cea", func := "loop.example/g01294/laws.FnExactNeedlessClicks", spec := "fnExactNeedlessClicks", inPlace := ["internal/bytealg.CountString", "internal/bytealg.IndexByteString", "internal/bytealg.IndexString"], unfollowed := true, recurses := true, named := ["unicode/utf8.first", "unicode/utf8.acceptRanges", "internal/bytealg.MaxLen"], apart := false, laid := [("unicode/utf8.acceptRanges", laid_unicode_utf8_acceptRanges), ("unicode/utf8.first", laid_unicode_utf8_first)], narrowed := true }
def FnExactNeedlessClicksUptoSaid : Prop := fnExactNeedlessClicksUptoRow.holds Tryd.pinned (OpenSpec.upto fnExactNeedlessClicksSpec)

/-- 'laws.FnExactSeenAfter', WHERE WHAT IT READS IS OF BULK AT MOST 1048576: true; the input reads as it did. -/
def fnExactSeenAfterUptoRow : OpenClaim := { program := "ytndmkbkmfonefaddoor", sum := "e2f94b61522189d8ff5e2f0c98c501039fb457a129eb1c2f1971c3d59af91cea", func := "loop.example/g01294/laws.FnExactSeenAfter", spec := "fnExactSeenAfter", inPlace := ["internal/bytealg.CountString", "internal/bytealg.IndexByteString", "internal/bytealg.IndexString", "internal/abi.NoEscape", "internal/bytealg.MakeNoZero"], unfollowed := true, recurses := true, named := ["unicode/utf8.first", "unicode/utf8.acceptRanges", "internal/bytealg.MaxLen"], apart := false, laid := [("unicode/utf8.acceptRanges", laid_unicode_utf8_acceptRanges), ("unicode/utf8.first", laid_unicode_utf8_first)], narrowed := true }
def FnExactSeenAfterUptoSaid : Prop := fnExactSeenAfterUptoRow.holds Tryd.pinned (OpenSpec.upto fnExactSeenAfterSpec)

/-- 'laws.FnExactIsView', WHERE WHAT IT READS IS OF BULK AT MOST 1048576: true; the input reads as it did. -/
def fnExactIsViewUptoRow : OpenClaim := { program := "ytndmkbkmfonefaddoor", sum := "e2f94b61522189d8ff5e2f0c98c501039fb457a129eb1c2f1971c3d59af91cea", func := "loop.example/g01294/laws.FnExactIsView", spec := "fnExactIsView", inPlace := ["internal/bytealg.CountString", "internal/bytealg.IndexByteString", "internal/bytealg.IndexString"], unfollowed := true, recurses := true, named := ["unicode/utf8.first", "unicode/utf8.acceptRanges", "internal/bytealg.MaxLen"], apart := false, laid := [("unicode/utf8.acceptRanges", laid_unicode_utf8_acceptRanges), ("unicode/utf8.first", laid_unicode_utf8_first)], narrowed := true }
def FnExactIsViewUptoSaid : Prop := fnExactIsViewUptoRow.holds Tryd.pinned (OpenSpec.upto fnExactIsViewSpec)

/-- 'laws.FnExactHiddenCells', WHERE WHAT IT READS IS OF BULK AT MOST 1048576: true; the input reads as it did. -/
def fnExactHiddenCellsUptoRow : OpenClaim := { program := "ytndmkbkmfonefaddoor", sum := "e2f94b61522189d8ff5e2f0c98c501039fb457a129eb1c2f1971c3d59af91cea", func := "loop.example/g01294/laws.FnExactHiddenCells", spec := "fnExactHiddenCells", inPlace := ["internal/bytealg.CountString", "internal/bytealg.IndexByteString", "internal/bytealg.IndexString"], unfollowed := true, recurses := true, named := ["unicode/utf8.first", "unicode/utf8.acceptRanges", "internal/bytealg.MaxLen"], apart := false, laid := [("unicode/utf8.acceptRanges", laid_unicode_utf8_acceptRanges), ("unicode/utf8.first", laid_unicode_utf8_first)], narrowed := true }
def FnExactHiddenCellsUptoSaid : Prop := fnExactHiddenCellsUptoRow.holds Tryd.pinned (OpenSpec.upto fnExactHiddenCellsSpec)

/-- 'laws.FnExactViewOf', WHERE WHAT IT READS IS OF BULK AT MOST 1048576: true; the input reads as it did. -/
def fnExactViewOfUptoRow : OpenClaim := { program := "ytndmkbkmfonefaddoor", sum := "e2f94b61522189d8ff5e2f0c98c501039fb457a129eb1c2f1971c3d59af91cea", func := "loop.example/g01294/laws.FnExactViewOf", spec := "fnExactViewOf", inPlace := ["internal/bytealg.CountString", "internal/bytealg.IndexByteString", "internal/bytealg.IndexString", "internal/abi.NoEscape", "internal/bytealg.MakeNoZero"], unfollowed := true, recurses := true, named := ["unicode/utf8.first", "unicode/utf8.acceptRanges", "internal/bytealg.MaxLen"], apart := false, laid := [("unicode/utf8.acceptRanges", laid_unicode_utf8_acceptRanges), ("unicode/utf8.first", laid_unicode_utf8_first)], narrowed := true }
def FnExactViewOfUptoSaid : Prop := fnExactViewOfUptoRow.holds Tryd.pinned (OpenSpec.upto fnExactViewOfSpec)

/-- 'laws.FnExactDoesFitView', WHERE WHAT IT READS IS OF BULK AT MOST 1048576: true; the input reads as it did. -/
def fnExactDoesFitViewUptoRow : OpenClaim := { program := "ytndmkbkmfonefaddoor", sum := "e2f94b61522189d8ff5e2f0c98c501039fb457a129eb1c2f1971c3d59af91cea", func := "loop.example/g01294/laws.FnExactDoesFitView", spec := "fnExactDoesFitView", inPlace := ["internal/bytealg.CountString", "internal/bytealg.IndexByteString", "internal/bytealg.IndexString"], unfollowed := true, recurses := true, named := ["unicode/utf8.first", "unicode/utf8.acceptRanges", "internal/bytealg.MaxLen"], apart := false, laid := [("unicode/utf8.acceptRanges", laid_unicode_utf8_acceptRanges), ("unicode/utf8.first", laid_unicode_utf8_first)], narrowed := true }
def FnExactDoesFitViewUptoSaid : Prop := fnExactDoesFitViewUptoRow.holds Tryd.pinned (OpenSpec.upto fnExactDoesFitViewSpec)

/-- 'laws.FnExactOpenCell', WHERE WHAT IT READS IS OF BULK AT MOST 1048576: true; the input reads as it did. -/
def fnExactOpenCellUptoRow : OpenClaim := { program := "ytndmkbkmfonefaddoor", sum := "e2f94b61522189d8ff5e2f0c98c501039fb457a129eb1c2f1971c3d59af91cea", func := "loop.example/g01294/laws.FnExactOpenCell", spec := "fnExactOpenCell", inPlace := ["internal/bytealg.CountString", "internal/bytealg.IndexByteString", "internal/bytealg.IndexString", "internal/abi.NoEscape", "internal/bytealg.MakeNoZero"], unfollowed := true, recurses := true, named := ["unicode/utf8.first", "unicode/utf8.acceptRanges", "internal/bytealg.MaxLen"], apart := false, laid := [("unicode/utf8.acceptRanges", laid_unicode_utf8_acceptRanges), ("unicode/utf8.first", laid_unicode_utf8_first)], narrowed := true }
def FnExactOpenCellUptoSaid : Prop := fnExactOpenCellUptoRow.holds Tryd.pinned (OpenSpec.upto fnExactOpenCellSpec)

/-- 'laws.FnExactCloseView', WHERE WHAT IT READS IS OF BULK AT MOST 1048576: true; the input reads as it did. -/
def fnExactCloseViewUptoRow : OpenClaim := { program := "ytndmkbkmfonefaddoor", sum := "e2f94b61522189d8ff5e2f0c98c501039fb457a129eb1c2f1971c3d59af91cea", func := "loop.example/g01294/laws.FnExactCloseView", spec := "fnExactCloseView", inPlace := ["internal/bytealg.CountString", "internal/bytealg.IndexByteString", "internal/bytealg.IndexString", "internal/abi.NoEscape", "internal/bytealg.MakeNoZero"], unfollowed := true, recurses := true, named := ["unicode/utf8.first", "unicode/utf8.acceptRanges", "internal/bytealg.MaxLen"], apart := false, laid := [("unicode/utf8.acceptRanges", laid_unicode_utf8_acceptRanges), ("unicode/utf8.first", laid_unicode_utf8_first)], narrowed := true }
def FnExactCloseViewUptoSaid : Prop := fnExactCloseViewUptoRow.holds Tryd.pinned (OpenSpec.upto fnExactCloseViewSpec)

end Rows
end Go.Proofs.YtndmkbkmfonefadDoor
