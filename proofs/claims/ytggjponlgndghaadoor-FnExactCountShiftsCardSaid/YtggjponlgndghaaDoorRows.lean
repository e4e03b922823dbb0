/-
  NARROWER THAN 'FOR EVERY INPUT', by the rows' own cells (each row's printed sentence says how): FnExactIsJoined: laid · FnExactJoinedNeighbours: laid · FnExactJoinedNumbers: laid · FnExactJoinedPicture: laid · FnExactJoinedSum: laid · FnExactShiftBoard: laid · FnExactCountShifts: laid · FnExactShiftsKept: laid.
  DERIVED. THE GIVEN ROWS OF THIS SEAT. 8 by the template 'for every input the law returns true; each argument reads behind the call as it read before'; 0 by the template 'total and deterministic' (their statements: YtggjponlgndghaaDoorTotals.lean).
  GIVEN WITH THE SEED: the statements are not yours to turn. If you find one false, say at which input.
  Laid BY PROGRAM, IN A SANDBOX (cutbox-rows.mjs): the forced cells as the released guide's own fill.sh prints them over the translation 5b1301cd76eca0ac… (all of the seat's roots in one cut). By AI agents, Wed Nov 11 2026. No macro, syntax, notation, axiom, sorry.
-/
import Derived.Test.YtggjponlgndghaaDoorChecked
import GoSem.PinnedTables
import GoSem.Claim
import GoSem.ClaimJoined
import GoSem.ClaimMapViews
import Derived.JoinedTies
import Derived.KernelRfl
namespace Go.Proofs.YtggjponlgndghaaDoor
/- THE CELL 'sum', in the pinned program and in every row, IS THE sha256 OF THE DUMP (.gsa) THAT YtggjponlgndghaaDoorProg.lean LOADS. Nothing in Lean hashes anything: it is a label: what it is worth is what the hold of that sum in a sandbox is worth. -/
noncomputable def Tryd.pinned : Pinned := { name := "ytggjponlgndghaadoor", sum := "5b1301cd76eca0acd9f19cb756a030dcd635e8259463560ef8f8d8c669634293", checked := Tryd.checked }
namespace Rows
def none {H : Type} : Left H := { results := [], args := [] }

/- WHAT THE LISTED PACKAGE-LEVEL VARIABLES READ AS WHEN THE CALL BEGINS. Each datum BY PROGRAM (the guide's laid-datum.mjs) off the statement by which the dump's own 'gosem.cut.vars' lays the variable. In a bare row this is a premise. The card (YtggjponlgndghaaDoorCards.lean) ties it to the program's text. -/
def laid_unicode_utf8_acceptRanges {H : Type} : DataW H := .agg [.agg [.lit (.int .u8 128), .lit (.int .u8 191)], .agg [.lit (.int .u8 160), .lit (.int .u8 191)], .agg [.lit (.int .u8 128), .lit (.int .u8 159)], .agg [.lit (.int .u8 144), .lit (.int .u8 191)], .agg [.lit (.int .u8 128), .lit (.int .u8 143)], .agg [.lit (.int .u8 0), .lit (.int .u8 0)], .agg [.lit (.int .u8 0), .lit (.int .u8 0)], .agg [.lit (.int .u8 0), .lit (.int .u8 0)], .agg [.lit (.int .u8 0), .lit (.int .u8 0)], .agg [.lit (.int .u8 0), .lit (.int .u8 0)], .agg [.lit (.int .u8 0), .lit (.int .u8 0)], .agg [.lit (.int .u8 0), .lit (.int .u8 0)], .agg [.lit (.int .u8 0), .lit (.int .u8 0)], .agg [.lit (.int .u8 0), .lit (.int .u8 0)], .agg [.lit (.int .u8 0), .lit (.int .u8 0)], .agg [.lit (.int .u8 0), .lit (.int .u8 0)]]
/-- One of Go's own tables, pinned by name: the form's constant. -/
def laid_unicode_utf8_first : DataW Unit := Go.Pinned.utf8First

/-- 'laws.FnExactIsJoined': WHATEVER THE INPUT: true; the input reads as it did. -/
def fnExactIsJoinedSpec : ChangeSpec := { name := "fnExactIsJoined", fn := fun _ => fun
  | [d] => { results := [.lit (.bool true)], args := [d] }
  | _ => none }
def fnExactIsJoinedRow : OpenClaim := { program := "ytggjponlgndghaadoor", sum := "5b1301cd76eca0acd9f19cb756a030dcd635e8259463560ef8f8d8c669634293", func := "loop.example/g01294/laws.FnExactIsJoined", spec := "fnExactIsJoined", inPlace := ["internal/bytealg.CountString", "internal/bytealg.IndexByteString", "internal/bytealg.IndexString"], unfollowed := true, recurses := true, named := ["unicode/utf8.first", "unicode/utf8.acceptRanges", "internal/bytealg.MaxLen"], apart := false, laid := [("unicode/utf8.acceptRanges", laid_unicode_utf8_acceptRanges), ("unicode/utf8.first", laid_unicode_utf8_first)] }
def FnExactIsJoinedSaid : Prop := fnExactIsJoinedRow.holds Tryd.pinned (OpenSpec.ofChange fnExactIsJoinedSpec)

/-- ITS FALSE NEIGHBOUR: 'it returns false'. Refute it at one input. -/
def fnExactIsJoinedWrong : ChangeSpec := { name := "fnExactIsJoined", fn := fun _ => fun
  | [d] => { results := [.lit (.bool false)], args := [d] }
  | _ => none }
def FnExactIsJoinedWrongFalsely : Prop := fnExactIsJoinedRow.holds Tryd.pinned (OpenSpec.ofChange fnExactIsJoinedWrong)

/-- 'laws.FnExactJoinedNeighbours': WHATEVER THE INPUT: true; the input reads as it did. -/
def fnExactJoinedNeighboursSpec : ChangeSpec := { name := "fnExactJoinedNeighbours", fn := fun _ => fun
  | [d1, d2] => { results := [.lit (.bool true)], args := [d1, d2] }
  | _ => none }
def fnExactJoinedNeighboursRow : OpenClaim := { program := "ytggjponlgndghaadoor", sum := "5b1301cd76eca0acd9f19cb756a030dcd635e8259463560ef8f8d8c669634293", func := "loop.example/g01294/laws.FnExactJoinedNeighbours", spec := "fnExactJoinedNeighbours", inPlace := ["internal/bytealg.CountString", "internal/bytealg.IndexByteString", "internal/bytealg.IndexString"], unfollowed := true, recurses := true, named := ["unicode/utf8.first", "unicode/utf8.acceptRanges", "internal/bytealg.MaxLen"], apart := false, laid := [("unicode/utf8.acceptRanges", laid_unicode_utf8_acceptRanges), ("unicode/utf8.first", laid_unicode_utf8_first)] }
def FnExactJoinedNeighboursSaid : Prop := fnExactJoinedNeighboursRow.holds Tryd.pinned (OpenSpec.ofChange fnExactJoinedNeighboursSpec)

/-- ITS FALSE NEIGHBOUR: 'it returns false'. Refute it at one input. -/
def fnExactJoinedNeighboursWrong : ChangeSpec := { name := "fnExactJoinedNeighbours", fn := fun _ => fun
  | [d1, d2] => { results := [.lit (.bool false)], args := [d1, d2] }
  | _ => none }
def FnExactJoinedNeighboursWrongFalsely : Prop := fnExactJoinedNeighboursRow.holds Tryd.pinned (OpenSpec.ofChange fnExactJoinedNeighboursWrong)

/-- 'laws.FnExactJoinedNumbers': WHATEVER THE INPUT: true; the input reads as it did. -/
def fnExactJoinedNumbersSpec : ChangeSpec := { name := "fnExactJoinedNumbers", fn := fun _ => fun
  | [d] => { results := [.lit (.bool true)], args := [d] }
  | _ => none }
def fnExactJoinedNumbersRow : OpenClaim := { program := "ytggjponlgndghaadoor", sum := "5b1301cd76eca0acd9f19cb756a030dcd635e8259463560ef8f8d8c669634293", func := "loop.example/g01294/laws.FnExactJoinedNumbers", spec := "fnExactJoinedNumbers", inPlace := ["internal/bytealg.CountString", "internal/bytealg.IndexByteString", "internal/bytealg.IndexString"], unfollowed := true, recurses := true, named := ["unicode/utf8.first", "unicode/utf8.acceptRanges", "internal/bytealg.MaxLen"], apart := false, laid := [("unicode/utf8.acceptRanges", laid_unicode_utf8_acceptRanges), ("unicode/utf8.first", laid_unicode_utf8_first)] }
def FnExactJoinedNumbersSaid : Prop := fnExactJoinedNumbersRow.holds Tryd.pinned (OpenSpec.ofChange fnExactJoinedNumbersSpec)

/-- ITS FALSE NEIGHBOUR: 'it returns false'. Refute it at one input. -/
def fnExactJoinedNumbersWrong : ChangeSpec := { name := "fnExactJoinedNumbers", fn := fun _ => fun
  | [d] => { results := [.lit (.bool false)], args := [d] }
  | _ => none }
def FnExactJoinedNumbersWrongFalsely : Prop := fnExactJoinedNumbersRow.holds Tryd.pinned (OpenSpec.ofChange fnExactJoinedNumbersWrong)

/-- 'laws.FnExactJoinedPicture': WHATEVER THE INPUT: true; the input reads as it did. -/
def fnExactJoinedPictureSpec : ChangeSpec := { name := "fnExactJoinedPicture", fn := fun _ => fun
  | [d] => { results := [.lit (.bool true)], args := [d] }
  | _ => none }
def fnExactJoinedPictureRow : OpenClaim := { program := "ytggjponlgndghaadoor", sum := "5b1301cd76eca0acd9f19cb756a030dcd635e8259463560ef8f8d8c669634293", func := "loop.example/g01294/laws.FnExactJoinedPicture", spec := "fnExactJoinedPicture", inPlace := ["internal/bytealg.CountString", "internal/bytealg.IndexByteString", "internal/bytealg.IndexString", "internal/abi.NoEscape", "internal/bytealg.MakeNoZero"], unfollowed := true, recurses := true, named := ["unicode/utf8.first", "unicode/utf8.acceptRanges", "internal/bytealg.MaxLen"], apart := false, laid := [("unicode/utf8.acceptRanges", laid_unicode_utf8_acceptRanges), ("unicode/utf8.first", laid_unicode_utf8_first)] }
def FnExactJoinedPictureSaid : Prop := fnExactJoinedPictureRow.holds Tryd.pinned (OpenSpec.ofChange fnExactJoinedPictureSpec)

/-- ITS FALSE NEIGHBOUR: 'it returns false'. Refute it at one input. -/
def fnExactJoinedPictureWrong : ChangeSpec := { name := "fnExactJoinedPicture", fn := fun _ => fun
  | [d] => { results := [.lit (.bool false)], args := [d] }
  | _ => none }
def FnExactJoinedPictureWrongFalsely : Prop := fnExactJoinedPictureRow.holds Tryd.pinned (OpenSpec.ofChange fnExactJoinedPictureWrong)

/-- 'laws.FnExactJoinedSum': WHATEVER THE INPUT: true; the input reads as it did. -/
def fnExactJoinedSumSpec : ChangeSpec := { name := "fnExactJoinedSum", fn := fun _ => fun
  | [d] => { results := [.lit (.bool true)], args := [d] }
  | _ => none }
def fnExactJoinedSumRow : OpenClaim := { program := "ytggjponlgndghaadoor", sum := "5b1301cd76eca0acd9f19cb756a030dcd635e8259463560ef8f8d8c669634293", func := "loop.example/g01294/laws.FnExactJoinedSum", spec := "fnExactJoinedSum", inPlace := ["internal/bytealg.CountString", "internal/bytealg.IndexByteString", "internal/bytealg.IndexString"], unfollowed := true, recurses := true, named := ["unicode/utf8.first", "unicode/utf8.acceptRanges", "internal/bytealg.MaxLen"], apart := false, laid := [("unicode/utf8.acceptRanges", laid_unicode_utf8_acceptRanges), ("unicode/utf8.first", laid_unicode_utf8_first)] }
def FnExactJoinedSumSaid : Prop := fnExactJoinedSumRow.holds Tryd.pinned (OpenSpec.ofChange fnExactJoinedSumSpec)

/-- ITS FALSE NEIGHBOUR: 'it returns false'. Refute it at one input. -/
def fnExactJoinedSumWrong : ChangeSpec := { name := "fnExactJoinedSum", fn := fun _ => fun
  | [d] => { results := [.lit (.bool false)], args := [d] }
  | _ => none }
def FnExactJoinedSumWrongFalsely : Prop := fnExactJoinedSumRow.holds Tryd.pinned (OpenSpec.ofChange fnExactJoinedSumWrong)

/-- 'laws.FnExactShiftBoard': WHATEVER THE INPUT: true; the input reads as it did. -/
def fnExactShiftBoardSpec : ChangeSpec := { name := "fnExactShiftBoard", fn := fun _ => fun
  | [d1, d2, d3] => { results := [.lit (.bool true)], args := [d1, d2, d3] }
  | _ => none }
def fnExactShiftBoardRow : OpenClaim := { program := "ytggjponlgndghaadoor", sum := "5b1301cd76eca0acd9f19cb756a030dcd635e8259463560ef8f8d8c669634293", func := "loop.example/g01294/laws.FnExactShiftBoard", spec := "fnExactShiftBoard", inPlace := ["internal/bytealg.CountString", "internal/bytealg.IndexByteString", "internal/bytealg.IndexString", "internal/abi.NoEscape", "internal/bytealg.MakeNoZero"], unfollowed := true, recurses := true, named := ["unicode/utf8.first", "unicode/utf8.acceptRanges", "internal/bytealg.MaxLen"], apart := false, laid := [("unicode/utf8.acceptRanges", laid_unicode_utf8_acceptRanges), ("unicode/utf8.first", laid_unicode_utf8_first)] }
def FnExactShiftBoardSaid : Prop := fnExactShiftBoardRow.holds Tryd.pinned (OpenSpec.ofChange fnExactShiftBoardSpec)

/-- ITS FALSE NEIGHBOUR: 'it returns false'. Refute it at one input. -/
def fnExactShiftBoardWrong : ChangeSpec := { name := "fnExactShiftBoard", fn := fun _ => fun
  | [d1, d2, d3] => { results := [.lit (.bool false)], args := [d1, d2, d3] }
  | _ => none }
def FnExactShiftBoardWrongFalsely : Prop := fnExactShiftBoardRow.holds Tryd.pinned (OpenSpec.ofChange fnExactShiftBoardWrong)

/-- 'laws.FnExactCountShifts': WHATEVER THE INPUT: true; the input reads as it did. -/
def fnExactCountShiftsSpec : ChangeSpec := { name := "fnExactCountShifts", fn := fun _ => fun
  | [d] => { results := [.lit (.bool true)], args := [d] }
  | _ => none }
def fnExactCountShiftsRow : OpenClaim := { program := "ytggjponlgndghaadoor", sum := "5b1301cd76eca0acd9f19cb756a030dcd635e8259463560ef8f8d8c669634293", func := "loop.example/g01294/laws.FnExactCountShifts", spec := "fnExactCountShifts", inPlace := ["internal/bytealg.CountString", "internal/bytealg.IndexByteString", "internal/bytealg.IndexString"], unfollowed := true, recurses := true, named := ["unicode/utf8.first", "unicode/utf8.acceptRanges", "internal/bytealg.MaxLen"], apart := false, laid := [("unicode/utf8.acceptRanges", laid_unicode_utf8_acceptRanges), ("unicode/utf8.first", laid_unicode_utf8_first)] }
def FnExactCountShiftsSaid : Prop := fnExactCountShiftsRow.holds Tryd.pinned (OpenSpec.ofChange fnExactCountShiftsSpec)

/-- ITS FALSE NEIGHBOUR: 'it returns false'. Refute it at one input. -/
def fnExactCountShiftsWrong : ChangeSpec := { name := "fnExactCountShifts", fn := fun _ => fun
  | [d] => { results := [.lit (.bool false)], args := [d] }
  | _ => none }
def FnExactCountShiftsWrongFalsely : Prop := fnExactCountShiftsRow.holds Tryd.pinned (OpenSpec.ofChange fnExactCountShiftsWrong)

/-- 'laws.FnExactShiftsKept': WHATEVER THE INPUT: true; the input reads as it did. -/
def fnExactShiftsKeptSpec : ChangeSpec := { name := "fnExactShiftsKept", fn := fun _ => fun
  | [d] => { results := [.lit (.bool true)], args := [d] }
  | _ => none }
def fnExactShiftsKeptRow : OpenClaim := { program := "ytggjponlgndghaadoor", sum := "5b1301cd76eca0acd9f19cb756a030dcd635e8259463560ef8f8d8c669634293", func := "loop.example/g01294/laws.FnExactShiftsKept", spec := "fnExactShiftsKept", inPlace := ["internal/bytealg.CountString", "internal/bytealg.IndexByteString", "internal/bytealg.IndexString"], unfollowed := true, recurses := true, named := ["unicode/utf8.first", "unicode/utf8.acceptRanges", "internal/bytealg.MaxLen"], apart := false, laid := [("unicode/utf8.acceptRanges", laid_unicode_utf8_acceptRanges), ("unicode/utf8.first", laid_unicode_utf8_first)] }
def FnExactShiftsKeptSaid : Prop := fnExactShiftsKeptRow.holds Tryd.pinned (OpenSpec.ofChange fnExactShiftsKeptSpec)

/-- ITS FALSE NEIGHBOUR: 'it returns false'. Refute it at one input. -/
def fnExactShiftsKeptWrong : ChangeSpec := { name := "fnExactShiftsKept", fn := fun _ => fun
  | [d] => { results := [.lit (.bool false)], args := [d] }
  | _ => none }
def FnExactShiftsKeptWrongFalsely : Prop := fnExactShiftsKeptRow.holds Tryd.pinned (OpenSpec.ofChange fnExactShiftsKeptWrong)

/- THE SECOND FORM. 'bulk': how many values and letters a reading holds, each counted each time it is reached (what is shared counts as often as it is met; a slice's spare places count too). A statement '..UptoSaid' is the law's where the arguments, and the package variables that the reading takes, are together of bulk at most 1048576: NARROWER than '..Said'. Prove '..Said' where nothing that the law and all that it calls make is longer than what came in: it says more and counts as full. Else prove '..UptoSaid'. A law counts once. -/
mutual
def uptoBulk {H : Type} : DataW H → Nat
  | .lit (.string bytes) => bytes.length + 1
  | .lit _ => 1
  | .nil => 1
  | .ptr d => uptoBulk d + 1
  | .slice elems spare => uptoBulkAll elems + uptoBulkAll spare + 1
  | .agg parts => uptoBulkAll parts + 1
  | .iface _ d => uptoBulk d + 1
  | .map entries => uptoBulkEntries entries + 1
  | .held _ => 1
def uptoBulkAll {H : Type} : List (DataW H) → Nat
  | [] => 0
  | d :: r => uptoBulk d + uptoBulkAll r
def uptoBulkEntries {H : Type} : List (Lit × DataW H) → Nat
  | [] => 0
  | x :: r => uptoBulkEntry x + uptoBulkEntries r
def uptoBulkEntry {H : Type} : Lit × DataW H → Nat
  | (.string bytes, d) => bytes.length + uptoBulk d + 1
  | (_, d) => uptoBulk d + 1
 end
def uptoSmall : (H : Type) → List (DataW H) → Bool := fun _ ds => decide (uptoBulkAll ds ≤ 1048576)
def OpenSpec.upto (s : _root_.Go.ChangeSpec) : _root_.Go.OpenSpec := { _root_.Go.OpenSpec.ofChange s with cond := some uptoSmall }

/-- 'laws.FnExactIsJoined', WHERE WHAT IT READS IS OF BULK AT MOST 1048576: true; the input reads as it did. -/
def fnExactIsJoinedUptoRow : OpenClaim := { program := "ytggjponlgndghaadoor", sum := "5b1301cd76eca0acd9f19cb756a030dcd635e8259463560ef8f8d8c669634293", func := "loop.example/g01294/laws.FnExactIsJoined", spec := "fnExactIsJoined", inPlace := ["internal/bytealg.CountString", "internal/bytealg.IndexByteString", "internal/bytealg.IndexString"], unfollowed := true, recurses := true, named := ["unicode/utf8.first", "unicode/utf8.acceptRanges", "internal/bytealg.MaxLen"], apart := false, laid := [("unicode/utf8.acceptRanges", laid_unicode_utf8_acceptRanges), ("unicode/utf8.first", laid_unicode_utf8_first)], narrowed := true }
def FnExactIsJoinedUptoSaid : Prop := fnExactIsJoinedUptoRow.holds Tryd.pinned (OpenSpec.upto fnExactIsJoinedSpec)

/-- 'laws.FnExactJoinedNeighbours', WHERE WHAT IT READS IS OF BULK AT MOST 1048576: true; the input reads as it did. -/
def fnExactJoinedNeighboursUptoRow : OpenClaim := { program := "ytggjponlgndghaadoor", sum := "5b1301cd76eca0acd9f19cb756a030dcd635e8259463560ef8f8d8c669634293", func := "loop.example/g01294/laws.FnExactJoinedNeighbours", spec := "fnExactJoinedNeighbours", inPlace := ["internal/bytealg.CountString", "internal/bytealg.IndexByteString", "internal/bytealg.IndexString"], unfollowed := true, recurses := true, named := ["unicode/utf8.first", "unicode/utf8.acceptRanges", "internal/bytealg.MaxLen"], apart := false, laid := [("unicode/utf8.acceptRanges", laid_unicode_utf8_acceptRanges), ("unicode/utf8.first", laid_unicode_utf8_first)], narrowed := true }
def FnExactJoinedNeighboursUptoSaid : Prop := fnExactJoinedNeighboursUptoRow.holds Tryd.pinned (OpenSpec.upto fnExactJoinedNeighboursSpec)

/-- 'laws.FnExactJoinedNumbers', WHERE WHAT IT READS IS OF BULK AT MOST 1048576: true; the input reads as it did. -/
def fnExactJoinedNumbersUptoRow : OpenClaim := { program := "ytggjponlgndghaadoor", sum := "5b1301cd76eca0acd9f19cb756a030dcd635e8259463560ef8f8d8c669634293", func := "loop.example/g01294/laws.FnExactJoinedNumbers", spec := "fnExactJoinedNumbers", inPlace := ["internal/bytealg.CountString", "internal/bytealg.IndexByteString", "internal/bytealg.IndexString"], unfollowed := true, recurses := true, named := ["unicode/utf8.first", "unicode/utf8.acceptRanges", "internal/bytealg.MaxLen"], apart := false, laid := [("unicode/utf8.acceptRanges", laid_unicode_utf8_acceptRanges), ("unicode/utf8.first", laid_unicode_utf8_first)], narrowed := true }
def FnExactJoinedNumbersUptoSaid : Prop := fnExactJoinedNumbersUptoRow.holds Tryd.pinned (OpenSpec.upto fnExactJoinedNumbersSpec)

/-- 'laws.FnExactJoinedPicture', WHERE WHAT IT READS IS OF BULK AT MOST 1048576: true; the input reads as it did. -/
def fnExactJoinedPictureUptoRow : OpenClaim := { program := "ytggjponlgndghaadoor", sum := "5b1301cd76eca0acd9f19cb756a030dcd635e8259463560ef8f8d8c669634293", func := "loop.example/g01294/laws.FnExactJoinedPicture", spec := "fnExactJoinedPicture", inPlace := ["internal/bytealg.CountString", "internal/bytealg.IndexByteString", "internal/bytealg.IndexString", "internal/abi.NoEscape", "internal/bytealg.MakeNoZero"], unfollowed := true, recurses := true, named := ["unicode/utf8.first", "unicode/utf8.acceptRanges", "internal/bytealg.MaxLen"], apart := false, laid := [("unicode/utf8.acceptRanges", laid_unicode_utf8_acceptRanges), ("unicode/utf8.first", laid_unicode_utf8_first)], narrowed := true }
def FnExactJoinedPictureUptoSaid : Prop := fnExactJoinedPictureUptoRow.holds Tryd.pinned (OpenSpec.upto fnExactJoinedPictureSpec)

/-- 'laws.FnExactJoinedSum', WHERE WHAT IT READS IS OF BULK AT MOST 1048576: true; the input reads as it did. -/
def fnExactJoinedSumUptoRow : OpenClaim := { program := "ytggjponlgndghaadoor", sum := "5b1301cd76eca0acd9f19cb756a030dcd635e8259463560ef8f8d8c669634293", func := "loop.example/g01294/laws.FnExactJoinedSum", spec := "fnExactJoinedSum", inPlace := ["internal/bytealg.CountString", "internal/bytealg.IndexByteString", "internal/bytealg.IndexString"], unfollowed := true, recurses := true, named := ["unicode/utf8.first", "unicode/utf8.acceptRanges", "internal/bytealg.MaxLen"], apart := false, laid := [("unicode/utf8.acceptRanges", laid_unicode_utf8_acceptRanges), ("unicode/utf8.first", laid_unicode_utf8_first)], narrowed := true }
def FnExactJoinedSumUptoSaid : Prop := fnExactJoinedSumUptoRow.holds Tryd.pinned (OpenSpec.upto fnExactJoinedSumSpec)

/-- 'laws.FnExactShiftBoard', WHERE WHAT IT READS IS OF BULK AT MOST 1048576: true; the input reads as it did. -/
def fnExactShiftBoardUptoRow : OpenClaim := { program := "ytggjponlgndghaadoor", sum := "5b1301cd76eca0acd9f19cb756a030dcd635e8259463560ef8f8d8c669634293", func := "loop.example/g01294/laws.FnExactShiftBoard", spec := "fnExactShiftBoard", inPlace := ["internal/bytealg.CountString", "internal/bytealg.IndexByteString", "internal/bytealg.IndexString", "internal/abi.NoEscape", "internal/bytealg.MakeNoZero"], unfollowed := true, recurses := true, named := ["unicode/utf8.first", "unicode/utf8.acceptRanges", "internal/bytealg.MaxLen"], apart := false, laid := [("unicode/utf8.acceptRanges", laid_unicode_utf8_acceptRanges), ("unicode/utf8.first", laid_unicode_utf8_first)], narrowed := true }
def FnExactShiftBoardUptoSaid : Prop := fnExactShiftBoardUptoRow.holds Tryd.pinned (OpenSpec.upto fnExactShiftBoardSpec)

/-- 'laws.FnExactCountShifts', WHERE WHAT IT READS IS OF BULK AT MOST 1048576: true; the input reads as it did. -/
def fnExactCountShiftsUptoRow : OpenClaim := { program := "ytggjponlgndghaadoor", sum := "5b1301cd76eca0acd9f19cb756a030dcd635e8259463560ef8f8d8c669634293", func := "loop.example/g01294/laws.FnExactCountShifts", spec := "fnExactCountShifts", inPlace := ["internal/bytealg.CountString", "internal/bytealg.IndexByteString", "internal/bytealg.IndexString"], unfollowed := true, recurses := true, named := ["unicode/utf8.first", "unicode/utf8.acceptRanges", "internal/bytealg.MaxLen"], apart := false, laid := [("unicode/utf8.acceptRanges", laid_unicode_utf8_acceptRanges), ("unicode/utf8.first", laid_unicode_utf8_first)], narrowed := true }
def FnExactCountShiftsUptoSaid : Prop := fnExactCountShiftsUptoRow.holds Tryd.pinned (OpenSpec.upto fnExactCountShiftsSpec)

/-- 'laws.FnExactShiftsKept', WHERE WHAT IT READS IS OF BULK AT MOST 1048576: true; the input reads as it did. -/
def fnExactShiftsKeptUptoRow : OpenClaim := { program := "ytggjponlgndghaadoor", sum := "5b1301cd76eca0acd9f19cb756a030dcd635e8259463560ef8f8d8c669634293", func := "loop.example/g01294/laws.FnExactShiftsKept", spec := "fnExactShiftsKept", inPlace := ["internal/bytealg.CountString", "internal/bytealg.IndexByteString", "internal/bytealg.IndexString"], unfollowed := true, recurses := true, named := ["unicode/utf8.first", "unicode/utf8.acceptRanges", "internal/bytealg.MaxLen"], apart := false, laid := [("unicode/utf8.acceptRanges", laid_unicode_utf8_acceptRanges), ("unicode/utf8.first", laid_unicode_utf8_first)], narrowed := true }
def FnExactShiftsKeptUptoSaid : Prop := fnExactShiftsKeptUptoRow.holds Tryd.pinned (OpenSpec.upto fnExactShiftsKeptSpec)

end Rows
end Go.Proofs.YtggjponlgndghaaDoor
