/-
  NARROWER THAN 'FOR EVERY INPUT', by the rows' own cells (each row's printed sentence says how): FnExactTakeMine: laid · FnExactOtherBoard: laid · FnExactTurnBoard: laid · FnExactMirrorBoard: laid · FnExactBesideBoard: laid · FnExactZerosOf: laid · FnExactLonelyMines: laid · FnExactGroupsOfMines: laid · FnExactOpenedBy: laid · FnExactOpeningsOf: laid.
  DERIVED. THE GIVEN ROWS OF THIS SEAT. 10 by the template 'for every input the law returns true; each argument reads behind the call as it read before'; 0 by the template 'total and deterministic' (their statements: YtndmkbkmfonefabDoorTotals.lean).
  GIVEN WITH THE SEED: the statements are not yours to turn. If you find one false, say at which input.
  Laid BY PROGRAM, IN A SANDBOX (cutbox-rows.mjs): the forced cells as the released guide's own fill.sh prints them over the translation 75c6456f3865d579… (all of the seat's roots in one cut). By AI agents, Wed Nov 11 2026. No macro, syntax, notation, axiom, sorry.
-/
import Derived.Test.YtndmkbkmfonefabDoorChecked
import GoSem.PinnedTables
import GoSem.Claim
import GoSem.ClaimJoined
import GoSem.ClaimMapViews
import Derived.JoinedTies
import Derived.KernelRfl
namespace Go.Proofs.YtndmkbkmfonefabDoor
/- THE CELL 'sum', in the pinned program and in every row, IS THE sha256 OF THE DUMP (.gsa) THAT YtndmkbkmfonefabDoorProg.lean LOADS. Nothing in Lean hashes anything: it is a label: what it is worth is what the hold of that sum in a sandbox is worth. -/
noncomputable def Tryd.pinned : Pinned := { name := "ytndmkbkmfonefabdoor", sum := "75c6456f3865d57905ded36cd46dc89a00f78e5d381b591279ff39c97251ccdc", checked := Tryd.checked }
namespace Rows
def none {H : Type} : Left H := { results := [], args := [] }

/- WHAT THE LISTED PACKAGE-LEVEL VARIABLES READ AS WHEN THE CALL BEGINS. Each datum BY PROGRAM (the guide's laid-datum.mjs) off the statement by which the dump's own 'gosem.cut.vars' lays the variable. In a bare row this is a premise. The card (YtndmkbkmfonefabDoorCards.lean) ties it to the program's text. -/
def laid_unicode_utf8_acceptRanges {H : Type} : DataW H := .agg [.agg [.lit (.int .u8 128), .lit (.int .u8 191)], .agg [.lit (.int .u8 160), .lit (.int .u8 191)], .agg [.lit (.int .u8 128), .lit (.int .u8 159)], .agg [.lit (.int .u8 144), .lit (.int .u8 191)], .agg [.lit (.int .u8 128), .lit (.int .u8 143)], .agg [.lit (.int .u8 0), .lit (.int .u8 0)], .agg [.lit (.int .u8 0), .lit (.int .u8 0)], .agg [.lit (.int .u8 0), .lit (.int .u8 0)], .agg [.lit (.int .u8 0), .lit (.int .u8 0)], .agg [.lit (.int .u8 0), .lit (.int .u8 0)], .agg [.lit (.int .u8 0), .lit (.int .u8 0)], .agg [.lit (.int .u8 0), .lit (.int .u8 0)], .agg [.lit (.int .u8 0), .lit (.int .u8 0)], .agg [.lit (.int .u8 0), .lit (.int .u8 0)], .agg [.lit (.int .u8 0), .lit (.int .u8 0)], .agg [.lit (.int .u8 0), .lit (.int .u8 0)]]
/-- One of Go's own tables, pinned by name: the form's constant. -/
def laid_unicode_utf8_first : DataW Unit := Go.Pinned.utf8First

/-- 'laws.FnExactTakeMine': WHATEVER THE INPUT: true; the input reads as it did. -/
def fnExactTakeMineSpec : ChangeSpec := { name := "fnExactTakeMine", fn := fun _ => fun
  | [d1, d2] => { results := [.lit (.bool true)], args := [d1, d2] }
  | _ => none }
def fnExactTakeMineRow : OpenClaim := { program := "ytndmkbkmfonefabdoor", sum := "75c6456f3865d57905ded36cd46dc89a00f78e5d381b591279ff39c97251ccdc", func := "loop.example/g01294/laws.FnExactTakeMine", spec := "fnExactTakeMine", inPlace := ["internal/bytealg.CountString", "internal/bytealg.IndexByteString", "internal/bytealg.IndexString", "internal/abi.NoEscape", "internal/bytealg.MakeNoZero"], unfollowed := true, recurses := true, named := ["unicode/utf8.first", "unicode/utf8.acceptRanges", "internal/bytealg.MaxLen"], plainKeys := false, apart := false, laid := [("unicode/utf8.acceptRanges", laid_unicode_utf8_acceptRanges), ("unicode/utf8.first", laid_unicode_utf8_first)] }
def FnExactTakeMineSaid : Prop := fnExactTakeMineRow.holds Tryd.pinned (OpenSpec.ofChange fnExactTakeMineSpec)

/-- ITS FALSE NEIGHBOUR: 'it returns false'. Refute it at one input. -/
def fnExactTakeMineWrong : ChangeSpec := { name := "fnExactTakeMine", fn := fun _ => fun
  | [d1, d2] => { results := [.lit (.bool false)], args := [d1, d2] }
  | _ => none }
def FnExactTakeMineWrongFalsely : Prop := fnExactTakeMineRow.holds Tryd.pinned (OpenSpec.ofChange fnExactTakeMineWrong)

/-- 'laws.FnExactOtherBoard': WHATEVER THE INPUT: true; the input reads as it did. -/
def fnExactOtherBoardSpec : ChangeSpec := { name := "fnExactOtherBoard", fn := fun _ => fun
  | [d] => { results := [.lit (.bool true)], args := [d] }
  | _ => none }
def fnExactOtherBoardRow : OpenClaim := { program := "ytndmkbkmfonefabdoor", sum := "75c6456f3865d57905ded36cd46dc89a00f78e5d381b591279ff39c97251ccdc", func := "loop.example/g01294/laws.FnExactOtherBoard", spec := "fnExactOtherBoard", inPlace := ["internal/bytealg.CountString", "internal/bytealg.IndexByteString", "internal/bytealg.IndexString", "internal/abi.NoEscape", "internal/bytealg.MakeNoZero"], unfollowed := true, recurses := true, named := ["unicode/utf8.first", "unicode/utf8.acceptRanges", "internal/bytealg.MaxLen"], plainKeys := false, apart := false, laid := [("unicode/utf8.acceptRanges", laid_unicode_utf8_acceptRanges), ("unicode/utf8.first", laid_unicode_utf8_first)] }
def FnExactOtherBoardSaid : Prop := fnExactOtherBoardRow.holds Tryd.pinned (OpenSpec.ofChange fnExactOtherBoardSpec)

/-- ITS FALSE NEIGHBOUR: 'it returns false'. Refute it at one input. -/
def fnExactOtherBoardWrong : ChangeSpec := { name := "fnExactOtherBoard", fn := fun _ => fun
  | [d] => { results := [.lit (.bool false)], args := [d] }
  | _ => none }
def FnExactOtherBoardWrongFalsely : Prop := fnExactOtherBoardRow.holds Tryd.pinned (OpenSpec.ofChange fnExactOtherBoardWrong)

/-- 'laws.FnExactTurnBoard': WHATEVER THE INPUT: true; the input reads as it did. -/
def fnExactTurnBoardSpec : ChangeSpec := { name := "fnExactTurnBoard", fn := fun _ => fun
  | [d] => { results := [.lit (.bool true)], args := [d] }
  | _ => none }
def fnExactTurnBoardRow : OpenClaim := { program := "ytndmkbkmfonefabdoor", sum := "75c6456f3865d57905ded36cd46dc89a00f78e5d381b591279ff39c97251ccdc", func := "loop.example/g01294/laws.FnExactTurnBoard", spec := "fnExactTurnBoard", inPlace := ["internal/bytealg.CountString", "internal/bytealg.IndexByteString", "internal/bytealg.IndexString", "internal/abi.NoEscape", "internal/bytealg.MakeNoZero"], unfollowed := true, recurses := true, named := ["unicode/utf8.first", "unicode/utf8.acceptRanges", "internal/bytealg.MaxLen"], plainKeys := false, apart := false, laid := [("unicode/utf8.acceptRanges", laid_unicode_utf8_acceptRanges), ("unicode/utf8.first", laid_unicode_utf8_first)] }
def FnExactTurnBoardSaid : Prop := fnExactTurnBoardRow.holds Tryd.pinned (OpenSpec.ofChange fnExactTurnBoardSpec)

/-- ITS FALSE NEIGHBOUR: 'it returns false'. Refute it at one input. -/
def fnExactTurnBoardWrong : ChangeSpec := { name := "fnExactTurnBoard", fn := fun _ => fun
  | [d] => { results := [.lit (.bool false)], args := [d] }
  | _ => none }
def FnExactTurnBoardWrongFalsely : Prop := fnExactTurnBoardRow.holds Tryd.pinned (OpenSpec.ofChange fnExactTurnBoardWrong)

/-- 'laws.FnExactMirrorBoard': WHATEVER THE INPUT: true; the input reads as it did. -/
def fnExactMirrorBoardSpec : ChangeSpec := { name := "fnExactMirrorBoard", fn := fun _ => fun
  | [d] => { results := [.lit (.bool true)], args := [d] }
  | _ => none }
def fnExactMirrorBoardRow : OpenClaim := { program := "ytndmkbkmfonefabdoor", sum := "75c6456f3865d57905ded36cd46dc89a00f78e5d381b591279ff39c97251ccdc", func := "loop.example/g01294/laws.FnExactMirrorBoard", spec := "fnExactMirrorBoard", inPlace := ["internal/bytealg.CountString", "internal/bytealg.IndexByteString", "internal/bytealg.IndexString", "internal/abi.NoEscape", "internal/bytealg.MakeNoZero"], unfollowed := true, recurses := true, named := ["unicode/utf8.first", "unicode/utf8.acceptRanges", "internal/bytealg.MaxLen"], plainKeys := false, apart := false, laid := [("unicode/utf8.acceptRanges", laid_unicode_utf8_acceptRanges), ("unicode/utf8.first", laid_unicode_utf8_first)] }
def FnExactMirrorBoardSaid : Prop := fnExactMirrorBoardRow.holds Tryd.pinned (OpenSpec.ofChange fnExactMirrorBoardSpec)

/-- ITS FALSE NEIGHBOUR: 'it returns false'. Refute it at one input. -/
def fnExactMirrorBoardWrong : ChangeSpec := { name := "fnExactMirrorBoard", fn := fun _ => fun
  | [d] => { results := [.lit (.bool false)], args := [d] }
  | _ => none }
def FnExactMirrorBoardWrongFalsely : Prop := fnExactMirrorBoardRow.holds Tryd.pinned (OpenSpec.ofChange fnExactMirrorBoardWrong)

/-- 'laws.FnExactBesideBoard': WHATEVER THE INPUT: true; the input reads as it did. -/
def fnExactBesideBoardSpec : ChangeSpec := { name := "fnExactBesideBoard", fn := fun _ => fun
  | [d1, d2] => { results := [.lit (.bool true)], args := [d1, d2] }
  | _ => none }
def fnExactBesideBoardRow : OpenClaim := { program := "ytndmkbkmfonefabdoor", sum := "75c6456f3865d57905ded36cd46dc89a00f78e5d381b591279ff39c97251ccdc", func := "loop.example/g01294/laws.FnExactBesideBoard", spec := "fnExactBesideBoard", inPlace := ["internal/bytealg.CountString", "internal/bytealg.IndexByteString", "internal/bytealg.IndexString", "internal/abi.NoEscape", "internal/bytealg.MakeNoZero"], unfollowed := true, recurses := true, named := ["unicode/utf8.first", "unicode/utf8.acceptRanges", "internal/bytealg.MaxLen"], plainKeys := false, apart := false, laid := [("unicode/utf8.acceptRanges", laid_unicode_utf8_acceptRanges), ("unicode/utf8.first", laid_unicode_utf8_first)] }
def FnExactBesideBoardSaid : Prop := fnExactBesideBoardRow.holds Tryd.pinned (OpenSpec.ofChange fnExactBesideBoardSpec)

/-- ITS FALSE NEIGHBOUR: 'it returns false'. Refute it at one input. -/
def fnExactBesideBoardWrong : ChangeSpec := { name := "fnExactBesideBoard", fn := fun _ => fun
  | [d1, d2] => { results := [.lit (.bool false)], args := [d1, d2] }
  | _ => none }
def FnExactBesideBoardWrongFalsely : Prop := fnExactBesideBoardRow.holds Tryd.pinned (OpenSpec.ofChange fnExactBesideBoardWrong)

/-- 'laws.FnExactZerosOf': WHATEVER THE INPUT: true; the input reads as it did. -/
def fnExactZerosOfSpec : ChangeSpec := { name := "fnExactZerosOf", fn := fun _ => fun
  | [d] => { results := [.lit (.bool true)], args := [d] }
  | _ => none }
def fnExactZerosOfRow : OpenClaim := { program := "ytndmkbkmfonefabdoor", sum := "75c6456f3865d57905ded36cd46dc89a00f78e5d381b591279ff39c97251ccdc", func := "loop.example/g01294/laws.FnExactZerosOf", spec := "fnExactZerosOf", inPlace := ["internal/bytealg.CountString", "internal/bytealg.IndexByteString", "internal/bytealg.IndexString"], unfollowed := true, recurses := true, named := ["unicode/utf8.first", "unicode/utf8.acceptRanges", "internal/bytealg.MaxLen"], plainKeys := false, apart := false, laid := [("unicode/utf8.acceptRanges", laid_unicode_utf8_acceptRanges), ("unicode/utf8.first", laid_unicode_utf8_first)] }
def FnExactZerosOfSaid : Prop := fnExactZerosOfRow.holds Tryd.pinned (OpenSpec.ofChange fnExactZerosOfSpec)

/-- ITS FALSE NEIGHBOUR: 'it returns false'. Refute it at one input. -/
def fnExactZerosOfWrong : ChangeSpec := { name := "fnExactZerosOf", fn := fun _ => fun
  | [d] => { results := [.lit (.bool false)], args := [d] }
  | _ => none }
def FnExactZerosOfWrongFalsely : Prop := fnExactZerosOfRow.holds Tryd.pinned (OpenSpec.ofChange fnExactZerosOfWrong)

/-- 'laws.FnExactLonelyMines': WHATEVER THE INPUT: true; the input reads as it did. -/
def fnExactLonelyMinesSpec : ChangeSpec := { name := "fnExactLonelyMines", fn := fun _ => fun
  | [d] => { results := [.lit (.bool true)], args := [d] }
  | _ => none }
def fnExactLonelyMinesRow : OpenClaim := { program := "ytndmkbkmfonefabdoor", sum := "75c6456f3865d57905ded36cd46dc89a00f78e5d381b591279ff39c97251ccdc", func := "loop.example/g01294/laws.FnExactLonelyMines", spec := "fnExactLonelyMines", inPlace := ["internal/bytealg.CountString", "internal/bytealg.IndexByteString", "internal/bytealg.IndexString"], unfollowed := true, recurses := true, named := ["unicode/utf8.first", "unicode/utf8.acceptRanges", "internal/bytealg.MaxLen"], plainKeys := false, apart := false, laid := [("unicode/utf8.acceptRanges", laid_unicode_utf8_acceptRanges), ("unicode/utf8.first", laid_unicode_utf8_first)] }
def FnExactLonelyMinesSaid : Prop := fnExactLonelyMinesRow.holds Tryd.pinned (OpenSpec.ofChange fnExactLonelyMinesSpec)

/-- ITS FALSE NEIGHBOUR: 'it returns false'. Refute it at one input. -/
def fnExactLonelyMinesWrong : ChangeSpec := { name := "fnExactLonelyMines", fn := fun _ => fun
  | [d] => { results := [.lit (.bool false)], args := [d] }
  | _ => none }
def FnExactLonelyMinesWrongFalsely : Prop := fnExactLonelyMinesRow.holds Tryd.pinned (OpenSpec.ofChange fnExactLonelyMinesWrong)

/-- 'laws.FnExactGroupsOfMines': WHATEVER THE INPUT: true; the input reads as it did. -/
def fnExactGroupsOfMinesSpec : ChangeSpec := { name := "fnExactGroupsOfMines", fn := fun _ => fun
  | [d] => { results := [.lit (.bool true)], args := [d] }
  | _ => none }
def fnExactGroupsOfMinesRow : OpenClaim := { program := "ytndmkbkmfonefabdoor", sum := "75c6456f3865d57905ded36cd46dc89a00f78e5d381b591279ff39c97251ccdc", func := "loop.example/g01294/laws.FnExactGroupsOfMines", spec := "fnExactGroupsOfMines", inPlace := ["internal/bytealg.CountString", "internal/bytealg.IndexByteString", "internal/bytealg.IndexString"], unfollowed := true, recurses := true, named := ["unicode/utf8.first", "unicode/utf8.acceptRanges", "internal/bytealg.MaxLen"], plainKeys := false, apart := false, laid := [("unicode/utf8.acceptRanges", laid_unicode_utf8_acceptRanges), ("unicode/utf8.first", laid_unicode_utf8_first)] }
def FnExactGroupsOfMinesSaid : Prop := fnExactGroupsOfMinesRow.holds Tryd.pinned (OpenSpec.ofChange fnExactGroupsOfMinesSpec)

/-- ITS FALSE NEIGHBOUR: 'it returns false'. Refute it at one input. -/
def fnExactGroupsOfMinesWrong : ChangeSpec := { name := "fnExactGroupsOfMines", fn := fun _ => fun
  | [d] => { results := [.lit (.bool false)], args := [d] }
  | _ => none }
def FnExactGroupsOfMinesWrongFalsely : Prop := fnExactGroupsOfMinesRow.holds Tryd.pinned (OpenSpec.ofChange fnExactGroupsOfMinesWrong)

/-- 'laws.FnExactOpenedBy': WHATEVER THE INPUT: true; the input reads as it did. -/
def fnExactOpenedBySpec : ChangeSpec := { name := "fnExactOpenedBy", fn := fun _ => fun
  | [d1, d2] => { results := [.lit (.bool true)], args := [d1, d2] }
  | _ => none }
def fnExactOpenedByRow : OpenClaim := { program := "ytndmkbkmfonefabdoor", sum := "75c6456f3865d57905ded36cd46dc89a00f78e5d381b591279ff39c97251ccdc", func := "loop.example/g01294/laws.FnExactOpenedBy", spec := "fnExactOpenedBy", inPlace := ["internal/bytealg.CountString", "internal/bytealg.IndexByteString", "internal/bytealg.IndexString"], unfollowed := true, recurses := true, named := ["unicode/utf8.first", "unicode/utf8.acceptRanges", "internal/bytealg.MaxLen"], plainKeys := false, apart := false, laid := [("unicode/utf8.acceptRanges", laid_unicode_utf8_acceptRanges), ("unicode/utf8.first", laid_unicode_utf8_first)] }
def FnExactOpenedBySaid : Prop := fnExactOpenedByRow.holds Tryd.pinned (OpenSpec.ofChange fnExactOpenedBySpec)

/-- ITS FALSE NEIGHBOUR: 'it returns false'. Refute it at one input. -/
def fnExactOpenedByWrong : ChangeSpec := { name := "fnExactOpenedBy", fn := fun _ => fun
  | [d1, d2] => { results := [.lit (.bool false)], args := [d1, d2] }
  | _ => none }
def FnExactOpenedByWrongFalsely : Prop := fnExactOpenedByRow.holds Tryd.pinned (OpenSpec.ofChange fnExactOpenedByWrong)

/-- 'laws.FnExactOpeningsOf': WHATEVER THE INPUT: true; the input reads as it did. -/
def fnExactOpeningsOfSpec : ChangeSpec := { name := "fnExactOpeningsOf", fn := fun _ => fun
  | [d] => { results := [.lit (.bool true)], args := [d] }
  | _ => none }
def fnExactOpeningsOfRow : OpenClaim := { program := "ytndmkbkmfonefabdoor", sum := "75c6456f3865d57905ded36cd46dc89a00f78e5d381b591279ff39c97251ccdc", func := "loop.example/g01294/laws.FnExactOpeningsOf", spec := "fnExactOpeningsOf", inPlace := ["internal/bytealg.CountString", "internal/bytealg.IndexByteString", "internal/bytealg.IndexString"], unfollowed := true, recurses := true, named := ["unicode/utf8.first", "unicode/utf8.acceptRanges", "internal/bytealg.MaxLen"], plainKeys := false, apart := false, laid := [("unicode/utf8.acceptRanges", laid_unicode_utf8_acceptRanges), ("unicode/utf8.first", laid_unicode_utf8_first)] }
def FnExactOpeningsOfSaid : Prop := fnExactOpeningsOfRow.holds Tryd.pinned (OpenSpec.ofChange fnExactOpeningsOfSpec)

/-- ITS FALSE NEIGHBOUR: 'it returns false'. Refute it at one input. -/
def fnExactOpeningsOfWrong : ChangeSpec := { name := "fnExactOpeningsOf", fn := fun _ => fun
  | [d] => { results := [.lit (.bool false)], args := [d] }
  | _ => none }
def FnExactOpeningsOfWrongFalsely : Prop := fnExactOpeningsOfRow.holds Tryd.pinned (OpenSpec.ofChange fnExactOpeningsOfWrong)

/- THE SECOND FORM. 'bulk': how many values and letters a reading holds, each counted each time it is reached (what is shared counts as often as it is met; a slice's spare places count too). A statement '..UptoSaid' is the law's where the arguments, and the package variables that the reading takes, are together of bulk at most 1048576: NARROWER than '..Said'. Prove '..Said' where nothing that the law and all that it calls make is longer than what came in: it says more and counts as full. Else prove '..UptoSaid'. A law counts once. -/
mutual
def uptoBulk {H : Type} : DataW H → Nat
  | .lit (.string bytes) => bytes.length + 1
  | .lit _ => 1
  | .nil => 1
  | .ptr d => uptoBulk d + 1
  | .slice elems spare => uptoBulkAll elems + uptoBulkAll spare + 1
  | .agg parts => uptoBulkAll parts + 1
  | .iface _ d => uptoBulk d + 1
  | .map entries => uptoBulkEntries entries + 1
  | .held _ => 1
def uptoBulkAll {H : Type} : List (DataW H) → Nat
  | [] => 0
  | d :: r => uptoBulk d + uptoBulkAll r
def uptoBulkEntries {H : Type} : List (Lit × DataW H) → Nat
  | [] => 0
  | x :: r => uptoBulkEntry x + uptoBulkEntries r
def uptoBulkEntry {H : Type} : Lit × DataW H → Nat
  | (.string bytes, d) => bytes.length + uptoBulk d + 1
  | (_, d) => uptoBulk d + 1
 end
def uptoSmall : (H : Type) → List (DataW H) → Bool := fun _ ds => decide (uptoBulkAll ds ≤ 1048576)
def OpenSpec.upto (s : _root_.Go.ChangeSpec) : _root_.Go.OpenSpec := { _root_.Go.OpenSpec.ofChange s with cond := some uptoSmall }

/-- 'laws.FnExactTakeMine', WHERE WHAT IT READS IS OF BULK AT MOST 1048576: true; the input reads as it did. -/
def fnExactTakeMineUptoRow : OpenClaim := { program := "ytndmkbkmfonefabdoor", sum := "75c6456f3865d57905ded36cd46dc89a00f78e5d381b591279ff39c97251ccdc", func := "loop.example/g01294/laws.FnExactTakeMine", spec := "fnExactTakeMine", inPlace := ["internal/bytealg.CountString", "internal/bytealg.IndexByteString", "internal/bytealg.IndexString", "internal/abi.NoEscape", "internal/bytealg.MakeNoZero"], unfollowed := true, recurses := true, named := ["unicode/utf8.first", "unicode/utf8.acceptRanges", "internal/bytealg.MaxLen"], plainKeys := false, apart := false, laid := [("unicode/utf8.acceptRanges", laid_unicode_utf8_acceptRanges), ("unicode/utf8.first", laid_unicode_utf8_first)], narrowed := true }
def FnExactTakeMineUptoSaid : Prop := fnExactTakeMineUptoRow.holds Tryd.pinned (OpenSpec.upto fnExactTakeMineSpec)

/-- 'laws.FnExactOtherBoard', WHERE WHAT IT READS IS OF BULK AT MOST 1048576: true; the input reads as it did. -/
def fnExactOtherBoardUptoRow : OpenClaim := { program := "ytndmkbkmfonefabdoor", sum := "75c6456f3865d57905ded36cd46dc89a00f78e5d381b591279ff39c97251ccdc", func := "loop.example/g01294/laws.FnExactOtherBoard", spec := "fnExactOtherBoard", inPlace := ["internal/bytealg.CountString", "internal/bytealg.IndexByteString", "internal/bytealg.IndexString", "internal/abi.NoEscape", "internal/bytealg.MakeNoZero"], unfollowed := true, recurses := true, named := ["unicode/utf8.first", "unicode/utf8.acceptRanges", "internal/bytealg.MaxLen"], plainKeys := false, apart := false, laid := [("unicode/utf8.acceptRanges", laid_unicode_utf8_acceptRanges), ("unicode/utf8.first", laid_unicode_utf8_first)], narrowed := true }
def FnExactOtherBoardUptoSaid : Prop := fnExactOtherBoardUptoRow.holds Tryd.pinned (OpenSpec.upto fnExactOtherBoardSpec)

/-- 'laws.FnExactTurnBoard', WHERE WHAT IT READS IS OF BULK AT MOST 1048576: true; the input reads as it did. -/
def fnExactTurnBoardUptoRow : OpenClaim := { program := "ytndmkbkmfonefabdoor", sum := "75c6456f3865d57905ded36cd46dc89a00f78e5d381b591279ff39c97251ccdc", func := "loop.example/g01294/laws.FnExactTurnBoard", spec := "fnExactTurnBoard", inPlace := ["internal/bytealg.CountString", "internal/bytealg.IndexByteString", "internal/bytealg.IndexString", "internal/abi.NoEscape", "internal/bytealg.MakeNoZero"], unfollowed := true, recurses := true, named := ["unicode/utf8.first", "unicode/utf8.acceptRanges", "internal/bytealg.MaxLen"], plainKeys := false, apart := false, laid := [("unicode/utf8.acceptRanges", laid_unicode_utf8_acceptRanges), ("unicode/utf8.first", laid_unicode_utf8_first)], narrowed := true }
def FnExactTurnBoardUptoSaid : Prop := fnExactTurnBoardUptoRow.holds Tryd.pinned (OpenSpec.upto fnExactTurnBoardSpec)

/-- 'laws.FnExactMirrorBoard', WHERE WHAT IT READS IS OF BULK AT MOST 1048576: true; the input reads as it did. -/
def fnExactMirrorBoardUptoRow : OpenClaim := { program := "ytndmkbkmfonefabdoor", sum := "75c6456f3865d57905ded36cd46dc89a00f78e5d381b591279ff39c97251ccdc", func := "loop.example/g01294/laws.FnExactMirrorBoard", spec := "fnExactMirrorBoard", inPlace := ["internal/bytealg.CountString", "internal/bytealg.IndexByteString", "internal/bytealg.IndexString", "internal/abi.NoEscape", "internal/bytealg.MakeNoZero"], unfollowed := true, recurses := true, named := ["unicode/utf8.first", "unicode/utf8.acceptRanges", "internal/bytealg.MaxLen"], plainKeys := false, apart := false, laid := [("unicode/utf8.acceptRanges", laid_unicode_utf8_acceptRanges), ("unicode/utf8.first", laid_unicode_utf8_first)], narrowed := true }
def FnExactMirrorBoardUptoSaid : Prop := fnExactMirrorBoardUptoRow.holds Tryd.pinned (OpenSpec.upto fnExactMirrorBoardSpec)

/-- 'laws.FnExactBesideBoard', WHERE WHAT IT READS IS OF BULK AT MOST 1048576: true; the input reads as it did. -/
def fnExactBesideBoardUptoRow : OpenClaim := { program := "ytndmkbkmfonefabdoor", sum := "75c6456f3865d57905ded36cd46dc89a00f78e5d381b591279ff39c97251ccdc", func := "loop.example/g01294/laws.FnExactBesideBoard", spec := "fnExactBesideBoard", inPlace := ["internal/bytealg.CountString", "internal/bytealg.IndexByteString", "internal/bytealg.IndexString", "internal/abi.NoEscape", "internal/bytealg.MakeNoZero"], unfollowed := true, recurses := true, named := ["unicode/utf8.first", "unicode/utf8.acceptRanges", "internal/bytealg.MaxLen"], plainKeys := false, apart := false, laid := [("unicode/utf8.acceptRanges", laid_unicode_utf8_acceptRanges), ("unicode/utf8.first", laid_unicode_utf8_first)], narrowed := true }
def FnExactBesideBoardUptoSaid : Prop := fnExactBesideBoardUptoRow.holds Tryd.pinned (OpenSpec.upto fnExactBesideBoardSpec)

/-- 'laws.FnExactZerosOf', WHERE WHAT IT READS IS OF BULK AT MOST 1048576: true; the input reads as it did. -/
def fnExactZerosOfUptoRow : OpenClaim := { program := "ytndmkbkmfonefabdoor", sum := "75c6456f3865d57905ded36cd46dc89a00f78e5d381b591279ff39c97251ccdc", func := "loop.example/g01294/laws.FnExactZerosOf", spec := "fnExactZerosOf", inPlace := ["internal/bytealg.CountString", "internal/bytealg.IndexByteString", "internal/bytealg.IndexString"], unfollowed := true, recurses := true, named := ["unicode/utf8.first", "unicode/utf8.acceptRanges", "internal/bytealg.MaxLen"], plainKeys := false, apart := false, laid := [("unicode/utf8.acceptRanges", laid_unicode_utf8_acceptRanges), ("unicode/utf8.first", laid_unicode_utf8_first)], narrowed := true }
def FnExactZerosOfUptoSaid : Prop := fnExactZerosOfUptoRow.holds Tryd.pinned (OpenSpec.upto fnExactZerosOfSpec)

/-- 'laws.FnExactLonelyMines', WHERE WHAT IT READS IS OF BULK AT MOST 1048576: true; the input reads as it did. -/
def fnExactLonelyMinesUptoRow : OpenClaim := { program := "ytndmkbkmfonefabdoor", sum := "75c6456f3865d57905ded36cd46dc89a00f78e5d381b591279ff39c97251ccdc", func := "loop.example/g01294/laws.FnExactLonelyMines", spec := "fnExactLonelyMines", inPlace := ["internal/bytealg.CountString", "internal/bytealg.IndexByteString", "internal/bytealg.IndexString"], unfollowed := true, recurses := true, named := ["unicode/utf8.first", "unicode/utf8.acceptRanges", "internal/bytealg.MaxLen"], plainKeys := false, apart := false, laid := [("unicode/utf8.acceptRanges", laid_unicode_utf8_acceptRanges), ("unicode/utf8.first", laid_unicode_utf8_first)], narrowed := true }
def FnExactLonelyMinesUptoSaid : Prop := fnExactLonelyMinesUptoRow.holds Tryd.pinned (OpenSpec.upto fnExactLonelyMinesSpec)

/-- 'laws.FnExactGroupsOfMines', WHERE WHAT IT READS IS OF BULK AT MOST 1048576: true; the input reads as it did. -/
def fnExactGroupsOfMinesUptoRow : OpenClaim := { program := "ytndmkbkmfonefabdoor", sum := "75c6456f3865d57905ded36cd46dc89a00f78e5d381b591279ff39c97251ccdc", func := "loop.example/g01294/laws.FnExactGroupsOfMines", spec := "fnExactGroupsOfMines", inPlace := ["internal/bytealg.CountString", "internal/bytealg.IndexByteString", "internal/bytealg.IndexString"], unfollowed := true, recurses := true, named := ["unicode/utf8.first", "unicode/utf8.acceptRanges", "internal/bytealg.MaxLen"], plainKeys := false, apart := false, laid := [("unicode/utf8.acceptRanges", laid_unicode_utf8_acceptRanges), ("unicode/utf8.first", laid_unicode_utf8_first)], narrowed := true }
def FnExactGroupsOfMinesUptoSaid : Prop := fnExactGroupsOfMinesUptoRow.holds Tryd.pinned (OpenSpec.upto fnExactGroupsOfMinesSpec)

/-- 'laws.FnExactOpenedBy', WHERE WHAT IT READS IS OF BULK AT MOST 1048576: true; the input reads as it did. -/
def fnExactOpenedByUptoRow : OpenClaim := { program := "ytndmkbkmfonefabdoor", sum := "75c6456f3865d57905ded36cd46dc89a00f78e5d381b591279ff39c97251ccdc", func := "loop.example/g01294/laws.FnExactOpenedBy", spec := "fnExactOpenedBy", inPlace := ["internal/bytealg.CountString", "internal/bytealg.IndexByteString", "internal/bytealg.IndexString"], unfollowed := true, recurses := true, named := ["unicode/utf8.first", "unicode/utf8.acceptRanges", "internal/bytealg.MaxLen"], plainKeys := false, apart := false, laid := [("unicode/utf8.acceptRanges", laid_unicode_utf8_acceptRanges), ("unicode/utf8.first", laid_unicode_utf8_first)], narrowed := true }
def FnExactOpenedByUptoSaid : Prop := fnExactOpenedByUptoRow.holds Tryd.pinned (OpenSpec.upto fnExactOpenedBySpec)

/-- 'laws.FnExactOpeningsOf', WHERE WHAT IT READS IS OF BULK AT MOST 1048576: true; the input reads as it did. -/
def fnExactOpeningsOfUptoRow : OpenClaim := { program := "ytndmkbkmfonefabdoor", sum := "75c6456f3865d57905ded36cd46dc89a00f78e5d381b591279ff39c97251ccdc", func := "loop.example/g01294/laws.FnExactOpeningsOf", spec := "fnExactOpeningsOf", inPlace := ["internal/bytealg.CountString", "internal/bytealg.IndexByteString", "internal/bytealg.IndexString"], unfollowed := true, recurses := true, named := ["unicode/utf8.first", "unicode/utf8.acceptRanges", "internal/bytealg.MaxLen"], plainKeys := false, apart := false, laid := [("unicode/utf8.acceptRanges", laid_unicode_utf8_acceptRanges), ("unicode/utf8.first", laid_unicode_utf8_first)], narrowed := true }
def FnExactOpeningsOfUptoSaid : Prop := fnExactOpeningsOfUptoRow.holds Tryd.pinned (OpenSpec.upto fnExactOpeningsOfSpec)

end Rows
end Go.Proofs.YtndmkbkmfonefabDoor
