/-
  NARROWER THAN 'FOR EVERY INPUT', by the rows' own cells (each row's printed sentence says how): FnExactPictureOf: laid · FnExactSumOfNumbers: laid · FnExactPutMine: laid · FnExactTakeMine: laid · FnExactOtherBoard: laid · FnExactTurnBoard: laid · FnExactMirrorBoard: laid · FnExactBesideBoard: laid · FnExactZerosOf: laid · FnExactGroupsOfMines: laid · FnExactLonelyMines: laid.
  DERIVED. THE GIVEN ROWS OF THIS SEAT. 11 by the template 'for every input the law returns true; each argument reads behind the call as it read before'; 0 by the template 'total and deterministic' (their statements: YtbaanmegkmlepabDoorTotals.lean).
  GIVEN WITH THE SEED: the statements are not yours to turn. If you find one false, say at which input.
  Laid BY PROGRAM, IN A SANDBOX (cutbox-rows.mjs): the forced cells as the released guide's own fill.sh prints them over the translation b77a2ee79b31c38e… (all of the seat's roots in one cut). By AI agents, Wed Nov 11 2026. No macro, syntax, notation, axiom, sorry.
-/
import Derived.Test.YtbaanmegkmlepabDoorChecked
import GoSem.PinnedTables
import GoSem.Claim
import GoSem.ClaimJoined
import GoSem.ClaimMapViews
import Derived.JoinedTies
import Derived.KernelRfl
namespace Go.Proofs.YtbaanmegkmlepabDoor
/- THE CELL 'sum', in the pinned program and in every row, IS THE sha256 OF THE DUMP (.gsa) THAT YtbaanmegkmlepabDoorProg.lean LOADS. Nothing in Lean hashes anything: it is a label: what it is worth is what the hold of that sum in a sandbox is worth. -/
noncomputable def Tryd.pinned : Pinned := { name := "ytbaanmegkmlepabdoor", sum := "b77a2ee79b31c38e6cbc25a9b65c7a147ab2c4a0060a213be6805611eb1b79d7", checked := Tryd.checked }
namespace Rows
def none {H : Type} : Left H := { results := [], args := [] }

/- WHAT THE LISTED PACKAGE-LEVEL VARIABLES READ AS WHEN THE CALL BEGINS. Each datum BY PROGRAM (the guide's laid-datum.mjs) off the statement by which the dump's own 'gosem.cut.vars' lays the variable. In a bare row this is a premise. The card (YtbaanmegkmlepabDoorCards.lean) ties it to the program's text. -/
def laid_unicode_utf8_acceptRanges {H : Type} : DataW H := .agg [.agg [.lit (.int .u8 128), .lit (.int .u8 191)], .agg [.lit (.int .u8 160), .lit (.int .u8 191)], .agg [.lit (.int .u8 128), .lit (.int .u8 159)], .agg [.lit (.int .u8 144), .lit (.int .u8 191)], .agg [.lit (.int .u8 128), .lit (.int .u8 143)], .agg [.lit (.int .u8 0), .lit (.int .u8 0)], .agg [.lit (.int .u8 0), .lit (.int .u8 0)], .agg [.lit (.int .u8 0), .lit (.int .u8 0)], .agg [.lit (.int .u8 0), .lit (.int .u8 0)], .agg [.lit (.int .u8 0), .lit (.int .u8 0)], .agg [.lit (.int .u8 0), .lit (.int .u8 0)], .agg [.lit (.int .u8 0), .lit (.int .u8 0)], .agg [.lit (.int .u8 0), .lit (.int .u8 0)], .agg [.lit (.int .u8 0), .lit (.int .u8 0)], .agg [.lit (.int .u8 0), .lit (.int .u8 0)], .agg [.lit (.int .u8 0), .lit (.int .u8 0)]]
/-- One of Go's own tables, pinned by name: the form's constant. -/
def laid_unicode_utf8_first : DataW Unit := Go.Pinned.utf8First

/-- 'laws.FnExactPictureOf': WHATEVER THE INPUT: true; the input reads as it did. -/
def fnExactPictureOfSpec : ChangeSpec := { name := "fnExactPictureOf", fn := fun _ => fun
  | [d] => { results := [.lit (.bool true)], args := [d] }
  | _ => none }
def fnExactPictureOfRow : OpenClaim := { program := "ytbaanmegkmlepabdoor", sum := "b77a2ee79b31c38e6cbc25a9b65c7a147ab2c4a0060a213be6805611eb1b79d7", func := "loop.example/g01294/laws.FnExactPictureOf", spec := "fnExactPictureOf", inPlace := ["internal/bytealg.CountString", "internal/bytealg.IndexByteString", "internal/bytealg.IndexString", "internal/abi.NoEscape", "internal/bytealg.MakeNoZero"], recurses := true, named := ["unicode/utf8.first", "unicode/utf8.acceptRanges", "internal/bytealg.MaxLen"], plainKeys := false, apart := false, laid := [("unicode/utf8.acceptRanges", laid_unicode_utf8_acceptRanges), ("unicode/utf8.first", laid_unicode_utf8_first)] }
def FnExactPictureOfSaid : Prop := fnExactPictureOfRow.holds Tryd.pinned (OpenSpec.ofChange fnExactPictureOfSpec)

/-- ITS FALSE NEIGHBOUR: 'it returns false'. Refute it at one input. -/
def fnExactPictureOfWrong : ChangeSpec := { name := "fnExactPictureOf", fn := fun _ => fun
  | [d] => { results := [.lit (.bool false)], args := [d] }
  | _ => none }
def FnExactPictureOfWrongFalsely : Prop := fnExactPictureOfRow.holds Tryd.pinned (OpenSpec.ofChange fnExactPictureOfWrong)

/-- 'laws.FnExactSumOfNumbers': WHATEVER THE INPUT: true; the input reads as it did. -/
def fnExactSumOfNumbersSpec : ChangeSpec := { name := "fnExactSumOfNumbers", fn := fun _ => fun
  | [d] => { results := [.lit (.bool true)], args := [d] }
  | _ => none }
def fnExactSumOfNumbersRow : OpenClaim := { program := "ytbaanmegkmlepabdoor", sum := "b77a2ee79b31c38e6cbc25a9b65c7a147ab2c4a0060a213be6805611eb1b79d7", func := "loop.example/g01294/laws.FnExactSumOfNumbers", spec := "fnExactSumOfNumbers", inPlace := ["internal/bytealg.CountString", "internal/bytealg.IndexByteString", "internal/bytealg.IndexString"], named := ["unicode/utf8.first", "unicode/utf8.acceptRanges", "internal/bytealg.MaxLen"], plainKeys := false, apart := false, laid := [("unicode/utf8.acceptRanges", laid_unicode_utf8_acceptRanges), ("unicode/utf8.first", laid_unicode_utf8_first)] }
def FnExactSumOfNumbersSaid : Prop := fnExactSumOfNumbersRow.holds Tryd.pinned (OpenSpec.ofChange fnExactSumOfNumbersSpec)

/-- ITS FALSE NEIGHBOUR: 'it returns false'. Refute it at one input. -/
def fnExactSumOfNumbersWrong : ChangeSpec := { name := "fnExactSumOfNumbers", fn := fun _ => fun
  | [d] => { results := [.lit (.bool false)], args := [d] }
  | _ => none }
def FnExactSumOfNumbersWrongFalsely : Prop := fnExactSumOfNumbersRow.holds Tryd.pinned (OpenSpec.ofChange fnExactSumOfNumbersWrong)

/-- 'laws.FnExactPutMine': WHATEVER THE INPUT: true; the input reads as it did. -/
def fnExactPutMineSpec : ChangeSpec := { name := "fnExactPutMine", fn := fun _ => fun
  | [d1, d2] => { results := [.lit (.bool true)], args := [d1, d2] }
  | _ => none }
def fnExactPutMineRow : OpenClaim := { program := "ytbaanmegkmlepabdoor", sum := "b77a2ee79b31c38e6cbc25a9b65c7a147ab2c4a0060a213be6805611eb1b79d7", func := "loop.example/g01294/laws.FnExactPutMine", spec := "fnExactPutMine", inPlace := ["internal/bytealg.CountString", "internal/bytealg.IndexByteString", "internal/bytealg.IndexString", "internal/abi.NoEscape", "internal/bytealg.MakeNoZero"], named := ["unicode/utf8.first", "unicode/utf8.acceptRanges", "internal/bytealg.MaxLen"], plainKeys := false, apart := false, laid := [("unicode/utf8.acceptRanges", laid_unicode_utf8_acceptRanges), ("unicode/utf8.first", laid_unicode_utf8_first)] }
def FnExactPutMineSaid : Prop := fnExactPutMineRow.holds Tryd.pinned (OpenSpec.ofChange fnExactPutMineSpec)

/-- ITS FALSE NEIGHBOUR: 'it returns false'. Refute it at one input. -/
def fnExactPutMineWrong : ChangeSpec := { name := "fnExactPutMine", fn := fun _ => fun
  | [d1, d2] => { results := [.lit (.bool false)], args := [d1, d2] }
  | _ => none }
def FnExactPutMineWrongFalsely : Prop := fnExactPutMineRow.holds Tryd.pinned (OpenSpec.ofChange fnExactPutMineWrong)

/-- 'laws.FnExactTakeMine': WHATEVER THE INPUT: true; the input reads as it did. -/
def fnExactTakeMineSpec : ChangeSpec := { name := "fnExactTakeMine", fn := fun _ => fun
  | [d1, d2] => { results := [.lit (.bool true)], args := [d1, d2] }
  | _ => none }
def fnExactTakeMineRow : OpenClaim := { program := "ytbaanmegkmlepabdoor", sum := "b77a2ee79b31c38e6cbc25a9b65c7a147ab2c4a0060a213be6805611eb1b79d7", func := "loop.example/g01294/laws.FnExactTakeMine", spec := "fnExactTakeMine", inPlace := ["internal/bytealg.CountString", "internal/bytealg.IndexByteString", "internal/bytealg.IndexString", "internal/abi.NoEscape", "internal/bytealg.MakeNoZero"], named := ["unicode/utf8.first", "unicode/utf8.acceptRanges", "internal/bytealg.MaxLen"], plainKeys := false, apart := false, laid := [("unicode/utf8.acceptRanges", laid_unicode_utf8_acceptRanges), ("unicode/utf8.first", laid_unicode_utf8_first)] }
def FnExactTakeMineSaid : Prop := fnExactTakeMineRow.holds Tryd.pinned (OpenSpec.ofChange fnExactTakeMineSpec)

/-- ITS FALSE NEIGHBOUR: 'it returns false'. Refute it at one input. -/
def fnExactTakeMineWrong : ChangeSpec := { name := "fnExactTakeMine", fn := fun _ => fun
  | [d1, d2] => { results := [.lit (.bool false)], args := [d1, d2] }
  | _ => none }
def FnExactTakeMineWrongFalsely : Prop := fnExactTakeMineRow.holds Tryd.pinned (OpenSpec.ofChange fnExactTakeMineWrong)

/-- 'laws.FnExactOtherBoard': WHATEVER THE INPUT: true; the input reads as it did. -/
def fnExactOtherBoardSpec : ChangeSpec := { name := "fnExactOtherBoard", fn := fun _ => fun
  | [d] => { results := [.lit (.bool true)], args := [d] }
  | _ => none }
def fnExactOtherBoardRow : OpenClaim := { program := "ytbaanmegkmlepabdoor", sum := "b77a2ee79b31c38e6cbc25a9b65c7a147ab2c4a0060a213be6805611eb1b79d7", func := "loop.example/g01294/laws.FnExactOtherBoard", spec := "fnExactOtherBoard", inPlace := ["internal/bytealg.CountString", "internal/bytealg.IndexByteString", "internal/bytealg.IndexString", "internal/abi.NoEscape", "internal/bytealg.MakeNoZero"], named := ["unicode/utf8.first", "unicode/utf8.acceptRanges", "internal/bytealg.MaxLen"], plainKeys := false, apart := false, laid := [("unicode/utf8.acceptRanges", laid_unicode_utf8_acceptRanges), ("unicode/utf8.first", laid_unicode_utf8_first)] }
def FnExactOtherBoardSaid : Prop := fnExactOtherBoardRow.holds Tryd.pinned (OpenSpec.ofChange fnExactOtherBoardSpec)

/-- ITS FALSE NEIGHBOUR: 'it returns false'. Refute it at one input. -/
def fnExactOtherBoardWrong : ChangeSpec := { name := "fnExactOtherBoard", fn := fun _ => fun
  | [d] => { results := [.lit (.bool false)], args := [d] }
  | _ => none }
def FnExactOtherBoardWrongFalsely : Prop := fnExactOtherBoardRow.holds Tryd.pinned (OpenSpec.ofChange fnExactOtherBoardWrong)

/-- 'laws.FnExactTurnBoard': WHATEVER THE INPUT: true; the input reads as it did. -/
def fnExactTurnBoardSpec : ChangeSpec := { name := "fnExactTurnBoard", fn := fun _ => fun
  | [d] => { results := [.lit (.bool true)], args := [d] }
  | _ => none }
def fnExactTurnBoardRow : OpenClaim := { program := "ytbaanmegkmlepabdoor", sum := "b77a2ee79b31c38e6cbc25a9b65c7a147ab2c4a0060a213be6805611eb1b79d7", func := "loop.example/g01294/laws.FnExactTurnBoard", spec := "fnExactTurnBoard", inPlace := ["internal/bytealg.CountString", "internal/bytealg.IndexByteString", "internal/bytealg.IndexString", "internal/abi.NoEscape", "internal/bytealg.MakeNoZero"], named := ["unicode/utf8.first", "unicode/utf8.acceptRanges", "internal/bytealg.MaxLen"], plainKeys := false, apart := false, laid := [("unicode/utf8.acceptRanges", laid_unicode_utf8_acceptRanges), ("unicode/utf8.first", laid_unicode_utf8_first)] }
def FnExactTurnBoardSaid : Prop := fnExactTurnBoardRow.holds Tryd.pinned (OpenSpec.ofChange fnExactTurnBoardSpec)

/-- ITS FALSE NEIGHBOUR: 'it returns false'. Refute it at one input. -/
def fnExactTurnBoardWrong : ChangeSpec := { name := "fnExactTurnBoard", fn := fun _ => fun
  | [d] => { results := [.lit (.bool false)], args := [d] }
  | _ => none }
def FnExactTurnBoardWrongFalsely : Prop := fnExactTurnBoardRow.holds Tryd.pinned (OpenSpec.ofChange fnExactTurnBoardWrong)

/-- 'laws.FnExactMirrorBoard': WHATEVER THE INPUT: true; the input reads as it did. -/
def fnExactMirrorBoardSpec : ChangeSpec := { name := "fnExactMirrorBoard", fn := fun _ => fun
  | [d] => { results := [.lit (.bool true)], args := [d] }
  | _ => none }
def fnExactMirrorBoardRow : OpenClaim := { program := "ytbaanmegkmlepabdoor", sum := "b77a2ee79b31c38e6cbc25a9b65c7a147ab2c4a0060a213be6805611eb1b79d7", func := "loop.example/g01294/laws.FnExactMirrorBoard", spec := "fnExactMirrorBoard", inPlace := ["internal/bytealg.CountString", "internal/bytealg.IndexByteString", "internal/bytealg.IndexString", "internal/abi.NoEscape", "internal/bytealg.MakeNoZero"], named := ["unicode/utf8.first", "unicode/utf8.acceptRanges", "internal/bytealg.MaxLen"], plainKeys := false, apart := false, laid := [("unicode/utf8.acceptRanges", laid_unicode_utf8_acceptRanges), ("unicode/utf8.first", laid_unicode_utf8_first)] }
def FnExactMirrorBoardSaid : Prop := fnExactMirrorBoardRow.holds Tryd.pinned (OpenSpec.ofChange fnExactMirrorBoardSpec)

/-- ITS FALSE NEIGHBOUR: 'it returns false'. Refute it at one input. -/
def fnExactMirrorBoardWrong : ChangeSpec := { name := "fnExactMirrorBoard", fn := fun _ => fun
  | [d] => { results := [.lit (.bool false)], args := [d] }
  | _ => none }
def FnExactMirrorBoardWrongFalsely : Prop := fnExactMirrorBoardRow.holds Tryd.pinned (OpenSpec.ofChange fnExactMirrorBoardWrong)

/-- 'laws.FnExactBesideBoard': WHATEVER THE INPUT: true; the input reads as it did. -/
def fnExactBesideBoardSpec : ChangeSpec := { name := "fnExactBesideBoard", fn := fun _ => fun
  | [d1, d2] => { results := [.lit (.bool true)], args := [d1, d2] }
  | _ => none }
def fnExactBesideBoardRow : OpenClaim := { program := "ytbaanmegkmlepabdoor", sum := "b77a2ee79b31c38e6cbc25a9b65c7a147ab2c4a0060a213be6805611eb1b79d7", func := "loop.example/g01294/laws.FnExactBesideBoard", spec := "fnExactBesideBoard", inPlace := ["internal/bytealg.CountString", "internal/bytealg.IndexByteString", "internal/bytealg.IndexString", "internal/abi.NoEscape", "internal/bytealg.MakeNoZero"], named := ["unicode/utf8.first", "unicode/utf8.acceptRanges", "internal/bytealg.MaxLen"], plainKeys := false, apart := false, laid := [("unicode/utf8.acceptRanges", laid_unicode_utf8_acceptRanges), ("unicode/utf8.first", laid_unicode_utf8_first)] }
def FnExactBesideBoardSaid : Prop := fnExactBesideBoardRow.holds Tryd.pinned (OpenSpec.ofChange fnExactBesideBoardSpec)

/-- ITS FALSE NEIGHBOUR: 'it returns false'. Refute it at one input. -/
def fnExactBesideBoardWrong : ChangeSpec := { name := "fnExactBesideBoard", fn := fun _ => fun
  | [d1, d2] => { results := [.lit (.bool false)], args := [d1, d2] }
  | _ => none }
def FnExactBesideBoardWrongFalsely : Prop := fnExactBesideBoardRow.holds Tryd.pinned (OpenSpec.ofChange fnExactBesideBoardWrong)

/-- 'laws.FnExactZerosOf': WHATEVER THE INPUT: true; the input reads as it did. -/
def fnExactZerosOfSpec : ChangeSpec := { name := "fnExactZerosOf", fn := fun _ => fun
  | [d] => { results := [.lit (.bool true)], args := [d] }
  | _ => none }
def fnExactZerosOfRow : OpenClaim := { program := "ytbaanmegkmlepabdoor", sum := "b77a2ee79b31c38e6cbc25a9b65c7a147ab2c4a0060a213be6805611eb1b79d7", func := "loop.example/g01294/laws.FnExactZerosOf", spec := "fnExactZerosOf", inPlace := ["internal/bytealg.CountString", "internal/bytealg.IndexByteString", "internal/bytealg.IndexString"], named := ["unicode/utf8.first", "unicode/utf8.acceptRanges", "internal/bytealg.MaxLen"], plainKeys := false, apart := false, laid := [("unicode/utf8.acceptRanges", laid_unicode_utf8_acceptRanges), ("unicode/utf8.first", laid_unicode_utf8_first)] }
def FnExactZerosOfSaid : Prop := fnExactZerosOfRow.holds Tryd.pinned (OpenSpec.ofChange fnExactZerosOfSpec)

/-- ITS FALSE NEIGHBOUR: 'it returns false'. Refute it at one input. -/
def fnExactZerosOfWrong : ChangeSpec := { name := "fnExactZerosOf", fn := fun _ => fun
  | [d] => { results := [.lit (.bool false)], args := [d] }
  | _ => none }
def FnExactZerosOfWrongFalsely : Prop := fnExactZerosOfRow.holds Tryd.pinned (OpenSpec.ofChange fnExactZerosOfWrong)

/-- 'laws.FnExactGroupsOfMines': WHATEVER THE INPUT: true; the input reads as it did. -/
def fnExactGroupsOfMinesSpec : ChangeSpec := { name := "fnExactGroupsOfMines", fn := fun _ => fun
  | [d] => { results := [.lit (.bool true)], args := [d] }
  | _ => none }
def fnExactGroupsOfMinesRow : OpenClaim := { program := "ytbaanmegkmlepabdoor", sum := "b77a2ee79b31c38e6cbc25a9b65c7a147ab2c4a0060a213be6805611eb1b79d7", func := "loop.example/g01294/laws.FnExactGroupsOfMines", spec := "fnExactGroupsOfMines", inPlace := ["internal/bytealg.CountString", "internal/bytealg.IndexByteString", "internal/bytealg.IndexString"], recurses := true, named := ["unicode/utf8.first", "unicode/utf8.acceptRanges", "internal/bytealg.MaxLen"], plainKeys := false, apart := false, laid := [("unicode/utf8.acceptRanges", laid_unicode_utf8_acceptRanges), ("unicode/utf8.first", laid_unicode_utf8_first)] }
def FnExactGroupsOfMinesSaid : Prop := fnExactGroupsOfMinesRow.holds Tryd.pinned (OpenSpec.ofChange fnExactGroupsOfMinesSpec)

/-- ITS FALSE NEIGHBOUR: 'it returns false'. Refute it at one input. -/
def fnExactGroupsOfMinesWrong : ChangeSpec := { name := "fnExactGroupsOfMines", fn := fun _ => fun
  | [d] => { results := [.lit (.bool false)], args := [d] }
  | _ => none }
def FnExactGroupsOfMinesWrongFalsely : Prop := fnExactGroupsOfMinesRow.holds Tryd.pinned (OpenSpec.ofChange fnExactGroupsOfMinesWrong)

/-- 'laws.FnExactLonelyMines': WHATEVER THE INPUT: true; the input reads as it did. -/
def fnExactLonelyMinesSpec : ChangeSpec := { name := "fnExactLonelyMines", fn := fun _ => fun
  | [d] => { results := [.lit (.bool true)], args := [d] }
  | _ => none }
def fnExactLonelyMinesRow : OpenClaim := { program := "ytbaanmegkmlepabdoor", sum := "b77a2ee79b31c38e6cbc25a9b65c7a147ab2c4a0060a213be6805611eb1b79d7", func := "loop.example/g01294/laws.FnExactLonelyMines", spec := "fnExactLonelyMines", inPlace := ["internal/bytealg.CountString", "internal/bytealg.IndexByteString", "internal/bytealg.IndexString"], named := ["unicode/utf8.first", "unicode/utf8.acceptRanges", "internal/bytealg.MaxLen"], plainKeys := false, apart := false, laid := [("unicode/utf8.acceptRanges", laid_unicode_utf8_acceptRanges), ("unicode/utf8.first", laid_unicode_utf8_first)] }
def FnExactLonelyMinesSaid : Prop := fnExactLonelyMinesRow.holds Tryd.pinned (OpenSpec.ofChange fnExactLonelyMinesSpec)

/-- ITS FALSE NEIGHBOUR: 'it returns false'. Refute it at one input. -/
def fnExactLonelyMinesWrong : ChangeSpec := { name := "fnExactLonelyMines", fn := fun _ => fun
  | [d] => { results := [.lit (.bool false)], args := [d] }
  | _ => none }
def FnExactLonelyMinesWrongFalsely : Prop := fnExactLonelyMinesRow.holds Tryd.pinned (OpenSpec.ofChange fnExactLonelyMinesWrong)

/- THE SECOND FORM. 'bulk': how many values and letters a reading holds, each counted each time it is reached (what is shared counts as often as it is met; a slice's spare places count too). A statement '..UptoSaid' is the law's where the arguments, and the package variables that the reading takes, are together of bulk at most 1048576: NARROWER than '..Said'. Prove '..Said' where nothing that the law and all that it calls make is longer than what came in: it says more and counts as full. Else prove '..UptoSaid'. A law counts once. -/
mutual
def uptoBulk {H : Type} : DataW H → Nat
  | .lit (.string bytes) => bytes.length + 1
  | .lit _ => 1
  | .nil => 1
  | .ptr d => uptoBulk d + 1
  | .slice elems spare => uptoBulkAll elems + uptoBulkAll spare + 1
  | .agg parts => uptoBulkAll parts + 1
  | .iface _ d => uptoBulk d + 1
  | .map entries => uptoBulkEntries entries + 1
  | .held _ => 1
def uptoBulkAll {H : Type} : List (DataW H) → Nat
  | [] => 0
  | d :: r => uptoBulk d + uptoBulkAll r
def uptoBulkEntries {H : Type} : List (Lit × DataW H) → Nat
  | [] => 0
  | x :: r => uptoBulkEntry x + uptoBulkEntries r
def uptoBulkEntry {H : Type} : Lit × DataW H → Nat
  | (.string bytes, d) => bytes.length + uptoBulk d + 1
  | (_, d) => uptoBulk d + 1
 end
def uptoSmall : (H : Type) → List (DataW H) → Bool := fun _ ds => decide (uptoBulkAll ds ≤ 1048576)
def OpenSpec.upto (s : _root_.Go.ChangeSpec) : _root_.Go.OpenSpec := { _root_.Go.OpenSpec.ofChange s with cond := some uptoSmall }

/-- 'laws.FnExactPictureOf', WHERE WHAT IT READS IS OF BULK AT MOST 1048576: true; the input reads as it did. -/
def fnExactPictureOfUptoRow : OpenClaim := { program := "ytbaanmegkmlepabdoor", sum := "b77a2ee79b31c38e6cbc25a9b65c7a147ab2c4a0060a213be6805611eb1b79d7", func := "loop.example/g01294/laws.FnExactPictureOf", spec := "fnExactPictureOf", inPlace := ["internal/bytealg.CountString", "internal/bytealg.IndexByteString", "internal/bytealg.IndexString", "internal/abi.NoEscape", "internal/bytealg.MakeNoZero"], recurses := true, named := ["unicode/utf8.first", "unicode/utf8.acceptRanges", "internal/bytealg.MaxLen"], plainKeys := false, apart := false, laid := [("unicode/utf8.acceptRanges", laid_unicode_utf8_acceptRanges), ("unicode/utf8.first", laid_unicode_utf8_first)], narrowed := true }
def FnExactPictureOfUptoSaid : Prop := fnExactPictureOfUptoRow.holds Tryd.pinned (OpenSpec.upto fnExactPictureOfSpec)

/-- 'laws.FnExactSumOfNumbers', WHERE WHAT IT READS IS OF BULK AT MOST 1048576: true; the input reads as it did. -/
def fnExactSumOfNumbersUptoRow : OpenClaim := { program := "ytbaanmegkmlepabdoor", sum := "b77a2ee79b31c38e6cbc25a9b65c7a147ab2c4a0060a213be6805611eb1b79d7", func := "loop.example/g01294/laws.FnExactSumOfNumbers", spec := "fnExactSumOfNumbers", inPlace := ["internal/bytealg.CountString", "internal/bytealg.IndexByteString", "internal/bytealg.IndexString"], named := ["unicode/utf8.first", "unicode/utf8.acceptRanges", "internal/bytealg.MaxLen"], plainKeys := false, apart := false, laid := [("unicode/utf8.acceptRanges", laid_unicode_utf8_acceptRanges), ("unicode/utf8.first", laid_unicode_utf8_first)], narrowed := true }
def FnExactSumOfNumbersUptoSaid : Prop := fnExactSumOfNumbersUptoRow.holds Tryd.pinned (OpenSpec.upto fnExactSumOfNumbersSpec)

/-- 'laws.FnExactPutMine', WHERE WHAT IT READS IS OF BULK AT MOST 1048576: true; the input reads as it did. -/
def fnExactPutMineUptoRow : OpenClaim := { program := "ytbaanmegkmlepabdoor", sum := "b77a2ee79b31c38e6cbc25a9b65c7a147ab2c4a0060a213be6805611eb1b79d7", func := "loop.example/g01294/laws.FnExactPutMine", spec := "fnExactPutMine", inPlace := ["internal/bytealg.CountString", "internal/bytealg.IndexByteString", "internal/bytealg.IndexString", "internal/abi.NoEscape", "internal/bytealg.MakeNoZero"], named := ["unicode/utf8.first", "unicode/utf8.acceptRanges", "internal/bytealg.MaxLen"], plainKeys := false, apart := false, laid := [("unicode/utf8.acceptRanges", laid_unicode_utf8_acceptRanges), ("unicode/utf8.first", laid_unicode_utf8_first)], narrowed := true }
def FnExactPutMineUptoSaid : Prop := fnExactPutMineUptoRow.holds Tryd.pinned (OpenSpec.upto fnExactPutMineSpec)

/-- 'laws.FnExactTakeMine', WHERE WHAT IT READS IS OF BULK AT MOST 1048576: true; the input reads as it did. -/
def fnExactTakeMineUptoRow : OpenClaim := { program := "ytbaanmegkmlepabdoor", sum := "b77a2ee79b31c38e6cbc25a9b65c7a147ab2c4a0060a213be6805611eb1b79d7", func := "loop.example/g01294/laws.FnExactTakeMine", spec := "fnExactTakeMine", inPlace := ["internal/bytealg.CountString", "internal/bytealg.IndexByteString", "internal/bytealg.IndexString", "internal/abi.NoEscape", "internal/bytealg.MakeNoZero"], named := ["unicode/utf8.first", "unicode/utf8.acceptRanges", "internal/bytealg.MaxLen"], plainKeys := false, apart := false, laid := [("unicode/utf8.acceptRanges", laid_unicode_utf8_acceptRanges), ("unicode/utf8.first", laid_unicode_utf8_first)], narrowed := true }
def FnExactTakeMineUptoSaid : Prop := fnExactTakeMineUptoRow.holds Tryd.pinned (OpenSpec.upto fnExactTakeMineSpec)

/-- 'laws.FnExactOtherBoard', WHERE WHAT IT READS IS OF BULK AT MOST 1048576: true; the input reads as it did. -/
def fnExactOtherBoardUptoRow : OpenClaim := { program := "ytbaanmegkmlepabdoor", sum := "b77a2ee79b31c38e6cbc25a9b65c7a147ab2c4a0060a213be6805611eb1b79d7", func := "loop.example/g01294/laws.FnExactOtherBoard", spec := "fnExactOtherBoard", inPlace := ["internal/bytealg.CountString", "internal/bytealg.IndexByteString", "internal/bytealg.IndexString", "internal/abi.NoEscape", "internal/bytealg.MakeNoZero"], named := ["unicode/utf8.first", "unicode/utf8.acceptRanges", "internal/bytealg.MaxLen"], plainKeys := false, apart := false, laid := [("unicode/utf8.acceptRanges", laid_unicode_utf8_acceptRanges), ("unicode/utf8.first", laid_unicode_utf8_first)], narrowed := true }
def FnExactOtherBoardUptoSaid : Prop := fnExactOtherBoardUptoRow.holds Tryd.pinned (OpenSpec.upto fnExactOtherBoardSpec)

/-- 'laws.FnExactTurnBoard', WHERE WHAT IT READS IS OF BULK AT MOST 1048576: true; the input reads as it did. -/
def fnExactTurnBoardUptoRow : OpenClaim := { program := "ytbaanmegkmlepabdoor", sum := "b77a2ee79b31c38e6cbc25a9b65c7a147ab2c4a0060a213be6805611eb1b79d7", func := "loop.example/g01294/laws.FnExactTurnBoard", spec := "fnExactTurnBoard", inPlace := ["internal/bytealg.CountString", "internal/bytealg.IndexByteString", "internal/bytealg.IndexString", "internal/abi.NoEscape", "internal/bytealg.MakeNoZero"], named := ["unicode/utf8.first", "unicode/utf8.acceptRanges", "internal/bytealg.MaxLen"], plainKeys := false, apart := false, laid := [("unicode/utf8.acceptRanges", laid_unicode_utf8_acceptRanges), ("unicode/utf8.first", laid_unicode_utf8_first)], narrowed := true }
def FnExactTurnBoardUptoSaid : Prop := fnExactTurnBoardUptoRow.holds Tryd.pinned (OpenSpec.upto fnExactTurnBoardSpec)

/-- 'laws.FnExactMirrorBoard', WHERE WHAT IT READS IS OF BULK AT MOST 1048576: true; the input reads as it did. -/
def fnExactMirrorBoardUptoRow : OpenClaim := { program := "ytbaanmegkmlepabdoor", sum := "b77a2ee79b31c38e6cbc25a9b65c7a147ab2c4a0060a213be6805611eb1b79d7", func := "loop.example/g01294/laws.FnExactMirrorBoard", spec := "fnExactMirrorBoard", inPlace := ["internal/bytealg.CountString", "internal/bytealg.IndexByteString", "internal/bytealg.IndexString", "internal/abi.NoEscape", "internal/bytealg.MakeNoZero"], named := ["unicode/utf8.first", "unicode/utf8.acceptRanges", "internal/bytealg.MaxLen"], plainKeys := false, apart := false, laid := [("unicode/utf8.acceptRanges", laid_unicode_utf8_acceptRanges), ("unicode/utf8.first", laid_unicode_utf8_first)], narrowed := true }
def FnExactMirrorBoardUptoSaid : Prop := fnExactMirrorBoardUptoRow.holds Tryd.pinned (OpenSpec.upto fnExactMirrorBoardSpec)

/-- 'laws.FnExactBesideBoard', WHERE WHAT IT READS IS OF BULK AT MOST 1048576: true; the input reads as it did. -/
def fnExactBesideBoardUptoRow : OpenClaim := { program := "ytbaanmegkmlepabdoor", sum := "b77a2ee79b31c38e6cbc25a9b65c7a147ab2c4a0060a213be6805611eb1b79d7", func := "loop.example/g01294/laws.FnExactBesideBoard", spec := "fnExactBesideBoard", inPlace := ["internal/bytealg.CountString", "internal/bytealg.IndexByteString", "internal/bytealg.IndexString", "internal/abi.NoEscape", "internal/bytealg.MakeNoZero"], named := ["unicode/utf8.first", "unicode/utf8.acceptRanges", "internal/bytealg.MaxLen"], plainKeys := false, apart := false, laid := [("unicode/utf8.acceptRanges", laid_unicode_utf8_acceptRanges), ("unicode/utf8.first", laid_unicode_utf8_first)], narrowed := true }
def FnExactBesideBoardUptoSaid : Prop := fnExactBesideBoardUptoRow.holds Tryd.pinned (OpenSpec.upto fnExactBesideBoardSpec)

/-- 'laws.FnExactZerosOf', WHERE WHAT IT READS IS OF BULK AT MOST 1048576: true; the input reads as it did. -/
def fnExactZerosOfUptoRow : OpenClaim := { program := "ytbaanmegkmlepabdoor", sum := "b77a2ee79b31c38e6cbc25a9b65c7a147ab2c4a0060a213be6805611eb1b79d7", func := "loop.example/g01294/laws.FnExactZerosOf", spec := "fnExactZerosOf", inPlace := ["internal/bytealg.CountString", "internal/bytealg.IndexByteString", "internal/bytealg.IndexString"], named := ["unicode/utf8.first", "unicode/utf8.acceptRanges", "internal/bytealg.MaxLen"], plainKeys := false, apart := false, laid := [("unicode/utf8.acceptRanges", laid_unicode_utf8_acceptRanges), ("unicode/utf8.first", laid_unicode_utf8_first)], narrowed := true }
def FnExactZerosOfUptoSaid : Prop := fnExactZerosOfUptoRow.holds Tryd.pinned (OpenSpec.upto fnExactZerosOfSpec)

/-- 'laws.FnExactGroupsOfMines', WHERE WHAT IT READS IS OF BULK AT MOST 1048576: true; the input reads as it did. -/
def fnExactGroupsOfMinesUptoRow : OpenClaim := { program := "ytbaanmegkmlepabdoor", sum := "b77a2ee79b31c38e6cbc25a9b65c7a147ab2c4a0060a213be6805611eb1b79d7", func := "loop.example/g01294/laws.FnExactGroupsOfMines", spec := "fnExactGroupsOfMines", inPlace := ["internal/bytealg.CountString", "internal/bytealg.IndexByteString", "internal/bytealg.IndexString"], recurses := true, named := ["unicode/utf8.first", "unicode/utf8.acceptRanges", "internal/bytealg.MaxLen"], plainKeys := false, apart := false, laid := [("unicode/utf8.acceptRanges", laid_unicode_utf8_acceptRanges), ("unicode/utf8.first", laid_unicode_utf8_first)], narrowed := true }
def FnExactGroupsOfMinesUptoSaid : Prop := fnExactGroupsOfMinesUptoRow.holds Tryd.pinned (OpenSpec.upto fnExactGroupsOfMinesSpec)

/-- 'laws.FnExactLonelyMines', WHERE WHAT IT READS IS OF BULK AT MOST 1048576: true; the input reads as it did. -/
def fnExactLonelyMinesUptoRow : OpenClaim := { program := "ytbaanmegkmlepabdoor", sum := "b77a2ee79b31c38e6cbc25a9b65c7a147ab2c4a0060a213be6805611eb1b79d7", func := "loop.example/g01294/laws.FnExactLonelyMines", spec := "fnExactLonelyMines", inPlace := ["internal/bytealg.CountString", "internal/bytealg.IndexByteString", "internal/bytealg.IndexString"], named := ["unicode/utf8.first", "unicode/utf8.acceptRanges", "internal/bytealg.MaxLen"], plainKeys := false, apart := false, laid := [("unicode/utf8.acceptRanges", laid_unicode_utf8_acceptRanges), ("unicode/utf8.first", laid_unicode_utf8_first)], narrowed := true }
def FnExactLonelyMinesUptoSaid : Prop := fnExactLonelyMinesUptoRow.holds Tryd.pinned (OpenSpec.upto fnExactLonelyMinesSpec)

end Rows
end Go.Proofs.YtbaanmegkmlepabDoor
