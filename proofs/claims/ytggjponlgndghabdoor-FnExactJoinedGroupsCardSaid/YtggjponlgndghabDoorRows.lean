/-
  NARROWER THAN 'FOR EVERY INPUT', by the rows' own cells (each row's printed sentence says how): FnExactIsEven: laid · FnExactJoinedGroups: laid · FnExactJoinedOpened: laid · FnExactJoinedClicks: laid · FnExactSameJoined: laid · FnExactLeastShift: laid · FnExactAreShifted: laid.
  DERIVED. THE GIVEN ROWS OF THIS SEAT. 7 by the template 'for every input the law returns true; each argument reads behind the call as it read before'; 0 by the template 'total and deterministic' (their statements: YtggjponlgndghabDoorTotals.lean).
  GIVEN WITH THE SEED: the statements are not yours to turn. If you find one false, say at which input.
  Laid BY PROGRAM, IN A SANDBOX (cutbox-rows.mjs): the forced cells as the released guide's own fill.sh prints them over the translation 531390554ba8baf4… (all of the seat's roots in one cut). By AI agents, Wed Nov 11 2026. No macro, syntax, notation, axiom, sorry.
-/
import Derived.Test.YtggjponlgndghabDoorChecked
import GoSem.PinnedTables
import GoSem.Claim
import GoSem.ClaimJoined
import GoSem.ClaimMapViews
import Derived.JoinedTies
import Derived.KernelRfl
namespace Go.Proofs.YtggjponlgndghabDoor
/- THE CELL 'sum', in the pinned program and in every row, IS THE sha256 OF THE DUMP (.gsa) THAT YtggjponlgndghabDoorProg.lean LOADS. Nothing in Lean hashes anything: it is a label: what it is worth is what the hold of that sum in a sandbox is worth. -/
noncomputable def Tryd.pinned : Pinned := { name := "ytggjponlgndghabdoor", sum := "531390554ba8baf488b624e122dd5748d3244e6bec38e1f0e1116f13306774e5", checked := Tryd.checked }
namespace Rows
def none {H : Type} : Left H := { results := [], args := [] }

/- WHAT THE LISTED PACKAGE-LEVEL VARIABLES READ AS WHEN THE CALL BEGINS. Each datum BY PROGRAM (the guide's laid-datum.mjs) off the statement by which the dump's own 'gosem.cut.vars' lays the variable. In a bare row this is a premise. The card (YtggjponlgndghabDoorCards.lean) ties it to the program's text. -/
def laid_unicode_utf8_acceptRanges {H : Type} : DataW H := .agg [.agg [.lit (.int .u8 128), .lit (.int .u8 191)], .agg [.lit (.int .u8 160), .lit (.int .u8 191)], .agg [.lit (.int .u8 128), .lit (.int .u8 159)], .agg [.lit (.int .u8 144), .lit (.int .u8 191)], .agg [.lit (.int .u8 128), .lit (.int .u8 143)], .agg [.lit (.int .u8 0), .lit (.int .u8 0)], .agg [.lit (.int .u8 0), .lit (.int .u8 0)], .agg [.lit (.int .u8 0), .lit (.int .u8 0)], .agg [.lit (.int .u8 0), .lit (.int .u8 0)], .agg [.lit (.int .u8 0), .lit (.int .u8 0)], .agg [.lit (.int .u8 0), .lit (.int .u8 0)], .agg [.lit (.int .u8 0), .lit (.int .u8 0)], .agg [.lit (.int .u8 0), .lit (.int .u8 0)], .agg [.lit (.int .u8 0), .lit (.int .u8 0)], .agg [.lit (.int .u8 0), .lit (.int .u8 0)], .agg [.lit (.int .u8 0), .lit (.int .u8 0)]]
/-- One of Go's own tables, pinned by name: the form's constant. -/
def laid_unicode_utf8_first : DataW Unit := Go.Pinned.utf8First

/-- 'laws.FnExactIsEven': WHATEVER THE INPUT: true; the input reads as it did. -/
def fnExactIsEvenSpec : ChangeSpec := { name := "fnExactIsEven", fn := fun _ => fun
  | [d] => { results := [.lit (.bool true)], args := [d] }
  | _ => none }
def fnExactIsEvenRow : OpenClaim := { program := "ytggjponlgndghabdoor", sum := "531390554ba8baf488b624e122dd5748d3244e6bec38e1f0e1116f13306774e5", func := "loop.example/g01294/laws.FnExactIsEven", spec := "fnExactIsEven", inPlace := ["internal/bytealg.CountString", "internal/bytealg.IndexByteString", "internal/bytealg.IndexString"], unfollowed := true, recurses := true, named := ["unicode/utf8.first", "unicode/utf8.acceptRanges", "internal/bytealg.MaxLen"], plainKeys := false, leaving := true, apart := false, laid := [("unicode/utf8.acceptRanges", laid_unicode_utf8_acceptRanges), ("unicode/utf8.first", laid_unicode_utf8_first)] }
def FnExactIsEvenSaid : Prop := fnExactIsEvenRow.holds Tryd.pinned (OpenSpec.ofChange fnExactIsEvenSpec)

/-- ITS FALSE NEIGHBOUR: 'it returns false'. Refute it at one input. -/
def fnExactIsEvenWrong : ChangeSpec := { name := "fnExactIsEven", fn := fun _ => fun
  | [d] => { results := [.lit (.bool false)], args := [d] }
  | _ => none }
def FnExactIsEvenWrongFalsely : Prop := fnExactIsEvenRow.holds Tryd.pinned (OpenSpec.ofChange fnExactIsEvenWrong)

/-- 'laws.FnExactJoinedGroups': WHATEVER THE INPUT: true; the input reads as it did. -/
def fnExactJoinedGroupsSpec : ChangeSpec := { name := "fnExactJoinedGroups", fn := fun _ => fun
  | [d] => { results := [.lit (.bool true)], args := [d] }
  | _ => none }
def fnExactJoinedGroupsRow : OpenClaim := { program := "ytggjponlgndghabdoor", sum := "531390554ba8baf488b624e122dd5748d3244e6bec38e1f0e1116f13306774e5", func := "loop.example/g01294/laws.FnExactJoinedGroups", spec := "fnExactJoinedGroups", inPlace := ["internal/bytealg.CountString", "internal/bytealg.IndexByteString", "internal/bytealg.IndexString"], unfollowed := true, recurses := true, named := ["unicode/utf8.first", "unicode/utf8.acceptRanges", "internal/bytealg.MaxLen"], plainKeys := false, leaving := true, apart := false, laid := [("unicode/utf8.acceptRanges", laid_unicode_utf8_acceptRanges), ("unicode/utf8.first", laid_unicode_utf8_first)] }
def FnExactJoinedGroupsSaid : Prop := fnExactJoinedGroupsRow.holds Tryd.pinned (OpenSpec.ofChange fnExactJoinedGroupsSpec)

/-- ITS FALSE NEIGHBOUR: 'it returns false'. Refute it at one input. -/
def fnExactJoinedGroupsWrong : ChangeSpec := { name := "fnExactJoinedGroups", fn := fun _ => fun
  | [d] => { results := [.lit (.bool false)], args := [d] }
  | _ => none }
def FnExactJoinedGroupsWrongFalsely : Prop := fnExactJoinedGroupsRow.holds Tryd.pinned (OpenSpec.ofChange fnExactJoinedGroupsWrong)

/-- 'laws.FnExactJoinedOpened': WHATEVER THE INPUT: true; the input reads as it did. -/
def fnExactJoinedOpenedSpec : ChangeSpec := { name := "fnExactJoinedOpened", fn := fun _ => fun
  | [d1, d2] => { results := [.lit (.bool true)], args := [d1, d2] }
  | _ => none }
def fnExactJoinedOpenedRow : OpenClaim := { program := "ytggjponlgndghabdoor", sum := "531390554ba8baf488b624e122dd5748d3244e6bec38e1f0e1116f13306774e5", func := "loop.example/g01294/laws.FnExactJoinedOpened", spec := "fnExactJoinedOpened", inPlace := ["internal/bytealg.CountString", "internal/bytealg.IndexByteString", "internal/bytealg.IndexString"], unfollowed := true, recurses := true, named := ["unicode/utf8.first", "unicode/utf8.acceptRanges", "internal/bytealg.MaxLen"], plainKeys := false, leaving := true, apart := false, laid := [("unicode/utf8.acceptRanges", laid_unicode_utf8_acceptRanges), ("unicode/utf8.first", laid_unicode_utf8_first)] }
def FnExactJoinedOpenedSaid : Prop := fnExactJoinedOpenedRow.holds Tryd.pinned (OpenSpec.ofChange fnExactJoinedOpenedSpec)

/-- ITS FALSE NEIGHBOUR: 'it returns false'. Refute it at one input. -/
def fnExactJoinedOpenedWrong : ChangeSpec := { name := "fnExactJoinedOpened", fn := fun _ => fun
  | [d1, d2] => { results := [.lit (.bool false)], args := [d1, d2] }
  | _ => none }
def FnExactJoinedOpenedWrongFalsely : Prop := fnExactJoinedOpenedRow.holds Tryd.pinned (OpenSpec.ofChange fnExactJoinedOpenedWrong)

/-- 'laws.FnExactJoinedClicks': WHATEVER THE INPUT: true; the input reads as it did. -/
def fnExactJoinedClicksSpec : ChangeSpec := { name := "fnExactJoinedClicks", fn := fun _ => fun
  | [d] => { results := [.lit (.bool true)], args := [d] }
  | _ => none }
def fnExactJoinedClicksRow : OpenClaim := { program := "ytggjponlgndghabdoor", sum := "531390554ba8baf488b624e122dd5748d3244e6bec38e1f0e1116f13306774e5", func := "loop.example/g01294/laws.FnExactJoinedClicks", spec := "fnExactJoinedClicks", inPlace := ["internal/bytealg.CountString", "internal/bytealg.IndexByteString", "internal/bytealg.IndexString"], unfollowed := true, recurses := true, named := ["unicode/utf8.first", "unicode/utf8.acceptRanges", "internal/bytealg.MaxLen"], plainKeys := false, leaving := true, apart := false, laid := [("unicode/utf8.acceptRanges", laid_unicode_utf8_acceptRanges), ("unicode/utf8.first", laid_unicode_utf8_first)] }
def FnExactJoinedClicksSaid : Prop := fnExactJoinedClicksRow.holds Tryd.pinned (OpenSpec.ofChange fnExactJoinedClicksSpec)

/-- ITS FALSE NEIGHBOUR: 'it returns false'. Refute it at one input. -/
def fnExactJoinedClicksWrong : ChangeSpec := { name := "fnExactJoinedClicks", fn := fun _ => fun
  | [d] => { results := [.lit (.bool false)], args := [d] }
  | _ => none }
def FnExactJoinedClicksWrongFalsely : Prop := fnExactJoinedClicksRow.holds Tryd.pinned (OpenSpec.ofChange fnExactJoinedClicksWrong)

/-- 'laws.FnExactSameJoined': WHATEVER THE INPUT: true; the input reads as it did. -/
def fnExactSameJoinedSpec : ChangeSpec := { name := "fnExactSameJoined", fn := fun _ => fun
  | [d] => { results := [.lit (.bool true)], args := [d] }
  | _ => none }
def fnExactSameJoinedRow : OpenClaim := { program := "ytggjponlgndghabdoor", sum := "531390554ba8baf488b624e122dd5748d3244e6bec38e1f0e1116f13306774e5", func := "loop.example/g01294/laws.FnExactSameJoined", spec := "fnExactSameJoined", inPlace := ["internal/bytealg.CountString", "internal/bytealg.IndexByteString", "internal/bytealg.IndexString", "internal/abi.NoEscape", "internal/bytealg.MakeNoZero"], unfollowed := true, recurses := true, named := ["unicode/utf8.first", "unicode/utf8.acceptRanges", "internal/bytealg.MaxLen"], plainKeys := false, leaving := true, apart := false, laid := [("unicode/utf8.acceptRanges", laid_unicode_utf8_acceptRanges), ("unicode/utf8.first", laid_unicode_utf8_first)] }
def FnExactSameJoinedSaid : Prop := fnExactSameJoinedRow.holds Tryd.pinned (OpenSpec.ofChange fnExactSameJoinedSpec)

/-- ITS FALSE NEIGHBOUR: 'it returns false'. Refute it at one input. -/
def fnExactSameJoinedWrong : ChangeSpec := { name := "fnExactSameJoined", fn := fun _ => fun
  | [d] => { results := [.lit (.bool false)], args := [d] }
  | _ => none }
def FnExactSameJoinedWrongFalsely : Prop := fnExactSameJoinedRow.holds Tryd.pinned (OpenSpec.ofChange fnExactSameJoinedWrong)

/-- 'laws.FnExactLeastShift': WHATEVER THE INPUT: true; the input reads as it did. -/
def fnExactLeastShiftSpec : ChangeSpec := { name := "fnExactLeastShift", fn := fun _ => fun
  | [d] => { results := [.lit (.bool true)], args := [d] }
  | _ => none }
def fnExactLeastShiftRow : OpenClaim := { program := "ytggjponlgndghabdoor", sum := "531390554ba8baf488b624e122dd5748d3244e6bec38e1f0e1116f13306774e5", func := "loop.example/g01294/laws.FnExactLeastShift", spec := "fnExactLeastShift", inPlace := ["internal/bytealg.CountString", "internal/bytealg.IndexByteString", "internal/bytealg.IndexString", "internal/abi.NoEscape", "internal/bytealg.MakeNoZero"], unfollowed := true, recurses := true, named := ["unicode/utf8.first", "unicode/utf8.acceptRanges", "internal/bytealg.MaxLen"], plainKeys := false, leaving := true, apart := false, laid := [("unicode/utf8.acceptRanges", laid_unicode_utf8_acceptRanges), ("unicode/utf8.first", laid_unicode_utf8_first)] }
def FnExactLeastShiftSaid : Prop := fnExactLeastShiftRow.holds Tryd.pinned (OpenSpec.ofChange fnExactLeastShiftSpec)

/-- ITS FALSE NEIGHBOUR: 'it returns false'. Refute it at one input. -/
def fnExactLeastShiftWrong : ChangeSpec := { name := "fnExactLeastShift", fn := fun _ => fun
  | [d] => { results := [.lit (.bool false)], args := [d] }
  | _ => none }
def FnExactLeastShiftWrongFalsely : Prop := fnExactLeastShiftRow.holds Tryd.pinned (OpenSpec.ofChange fnExactLeastShiftWrong)

/-- 'laws.FnExactAreShifted': WHATEVER THE INPUT: true; the input reads as it did. -/
def fnExactAreShiftedSpec : ChangeSpec := { name := "fnExactAreShifted", fn := fun _ => fun
  | [d1, d2] => { results := [.lit (.bool true)], args := [d1, d2] }
  | _ => none }
def fnExactAreShiftedRow : OpenClaim := { program := "ytggjponlgndghabdoor", sum := "531390554ba8baf488b624e122dd5748d3244e6bec38e1f0e1116f13306774e5", func := "loop.example/g01294/laws.FnExactAreShifted", spec := "fnExactAreShifted", inPlace := ["internal/bytealg.CountString", "internal/bytealg.IndexByteString", "internal/bytealg.IndexString", "internal/abi.NoEscape", "internal/bytealg.MakeNoZero"], unfollowed := true, recurses := true, named := ["unicode/utf8.first", "unicode/utf8.acceptRanges", "internal/bytealg.MaxLen"], plainKeys := false, leaving := true, apart := false, laid := [("unicode/utf8.acceptRanges", laid_unicode_utf8_acceptRanges), ("unicode/utf8.first", laid_unicode_utf8_first)] }
def FnExactAreShiftedSaid : Prop := fnExactAreShiftedRow.holds Tryd.pinned (OpenSpec.ofChange fnExactAreShiftedSpec)

/-- ITS FALSE NEIGHBOUR: 'it returns false'. Refute it at one input. -/
def fnExactAreShiftedWrong : ChangeSpec := { name := "fnExactAreShifted", fn := fun _ => fun
  | [d1, d2] => { results := [.lit (.bool false)], args := [d1, d2] }
  | _ => none }
def FnExactAreShiftedWrongFalsely : Prop := fnExactAreShiftedRow.holds Tryd.pinned (OpenSpec.ofChange fnExactAreShiftedWrong)

/- THE SECOND FORM. 'bulk': how many values and letters a reading holds, each counted each time it is reached (what is shared counts as often as it is met; a slice's spare places count too). A statement '..UptoSaid' is the law's where the arguments, and the package variables that the reading takes, are together of bulk at most 1048576: NARROWER than '..Said'. Prove '..Said' where nothing that the law and all that it calls make is longer than what came in: it says more and counts as full. Else prove '..UptoSaid'. A law counts once. -/
mutual
def uptoBulk {H : Type} : DataW H → Nat
  | .lit (.string bytes) => bytes.length + 1
  | .lit _ => 1
  | .nil => 1
  | .ptr d => uptoBulk d + 1
  | .slice elems spare => uptoBulkAll elems + uptoBulkAll spare + 1
  | .agg parts => uptoBulkAll parts + 1
  | .iface _ d => uptoBulk d + 1
  | .map entries => uptoBulkEntries entries + 1
  | .held _ => 1
def uptoBulkAll {H : Type} : List (DataW H) → Nat
  | [] => 0
  | d :: r => uptoBulk d + uptoBulkAll r
def uptoBulkEntries {H : Type} : List (Lit × DataW H) → Nat
  | [] => 0
  | x :: r => uptoBulkEntry x + uptoBulkEntries r
def uptoBulkEntry {H : Type} : Lit × DataW H → Nat
  | (.string bytes, d) => bytes.length + uptoBulk d + 1
  | (_, d) => uptoBulk d + 1
 end
def uptoSmall : (H : Type) → List (DataW H) → Bool := fun _ ds => decide (uptoBulkAll ds ≤ 1048576)
def OpenSpec.upto (s : _root_.Go.ChangeSpec) : _root_.Go.OpenSpec := { _root_.Go.OpenSpec.ofChange s with cond := some uptoSmall }

/-- 'laws.FnExactIsEven', WHERE WHAT IT READS IS OF BULK AT MOST 1048576: true; the input reads as it did. -/
def fnExactIsEvenUptoRow : OpenClaim := { program := "ytggjponlgndghabdoor", sum := "531390554ba8baf488b624e122dd5748d3244e6bec38e1f0e1116f13306774e5", func := "loop.example/g01294/laws.FnExactIsEven", spec := "fnExactIsEven", inPlace := ["internal/bytealg.CountString", "internal/bytealg.IndexByteString", "internal/bytealg.IndexString"], unfollowed := true, recurses := true, named := ["unicode/utf8.first", "unicode/utf8.acceptRanges", "internal/bytealg.MaxLen"], plainKeys := false, leaving := true, apart := false, laid := [("unicode/utf8.acceptRanges", laid_unicode_utf8_acceptRanges), ("unicode/utf8.first", laid_unicode_utf8_first)], narrowed := true }
def FnExactIsEvenUptoSaid : Prop := fnExactIsEvenUptoRow.holds Tryd.pinned (OpenSpec.upto fnExactIsEvenSpec)

/-- 'laws.FnExactJoinedGroups', WHERE WHAT IT READS IS OF BULK AT MOST 1048576: true; the input reads as it did. -/
def fnExactJoinedGroupsUptoRow : OpenClaim := { program := "ytggjponlgndghabdoor", sum := "531390554ba8baf488b624e122dd5748d3244e6bec38e1f0e1116f13306774e5", func := "loop.example/g01294/laws.FnExactJoinedGroups", spec := "fnExactJoinedGroups", inPlace := ["internal/bytealg.CountString", "internal/bytealg.IndexByteString", "internal/bytealg.IndexString"], unfollowed := true, recurses := true, named := ["unicode/utf8.first", "unicode/utf8.acceptRanges", "internal/bytealg.MaxLen"], plainKeys := false, leaving := true, apart := false, laid := [("unicode/utf8.acceptRanges", laid_unicode_utf8_acceptRanges), ("unicode/utf8.first", laid_unicode_utf8_first)], narrowed := true }
def FnExactJoinedGroupsUptoSaid : Prop := fnExactJoinedGroupsUptoRow.holds Tryd.pinned (OpenSpec.upto fnExactJoinedGroupsSpec)

/-- 'laws.FnExactJoinedOpened', WHERE WHAT IT READS IS OF BULK AT MOST 1048576: true; the input reads as it did. -/
def fnExactJoinedOpenedUptoRow : OpenClaim := { program := "ytggjponlgndghabdoor", sum := "531390554ba8baf488b624e122dd5748d3244e6bec38e1f0e1116f13306774e5", func := "loop.example/g01294/laws.FnExactJoinedOpened", spec := "fnExactJoinedOpened", inPlace := ["internal/bytealg.CountString", "internal/bytealg.IndexByteString", "internal/bytealg.IndexString"], unfollowed := true, recurses := true, named := ["unicode/utf8.first", "unicode/utf8.acceptRanges", "internal/bytealg.MaxLen"], plainKeys := false, leaving := true, apart := false, laid := [("unicode/utf8.acceptRanges", laid_unicode_utf8_acceptRanges), ("unicode/utf8.first", laid_unicode_utf8_first)], narrowed := true }
def FnExactJoinedOpenedUptoSaid : Prop := fnExactJoinedOpenedUptoRow.holds Tryd.pinned (OpenSpec.upto fnExactJoinedOpenedSpec)

/-- 'laws.FnExactJoinedClicks', WHERE WHAT IT READS IS OF BULK AT MOST 1048576: true; the input reads as it did. -/
def fnExactJoinedClicksUptoRow : OpenClaim := { program := "ytggjponlgndghabdoor", sum := "531390554ba8baf488b624e122dd5748d3244e6bec38e1f0e1116f13306774e5", func := "loop.example/g01294/laws.FnExactJoinedClicks", spec := "fnExactJoinedClicks", inPlace := ["internal/bytealg.CountString", "internal/bytealg.IndexByteString", "internal/bytealg.IndexString"], unfollowed := true, recurses := true, named := ["unicode/utf8.first", "unicode/utf8.acceptRanges", "internal/bytealg.MaxLen"], plainKeys := false, leaving := true, apart := false, laid := [("unicode/utf8.acceptRanges", laid_unicode_utf8_acceptRanges), ("unicode/utf8.first", laid_unicode_utf8_first)], narrowed := true }
def FnExactJoinedClicksUptoSaid : Prop := fnExactJoinedClicksUptoRow.holds Tryd.pinned (OpenSpec.upto fnExactJoinedClicksSpec)

/-- 'laws.FnExactSameJoined', WHERE WHAT IT READS IS OF BULK AT MOST 1048576: true; the input reads as it did. -/
def fnExactSameJoinedUptoRow : OpenClaim := { program := "ytggjponlgndghabdoor", sum := "531390554ba8baf488b624e122dd5748d3244e6bec38e1f0e1116f13306774e5", func := "loop.example/g01294/laws.FnExactSameJoined", spec := "fnExactSameJoined", inPlace := ["internal/bytealg.CountString", "internal/bytealg.IndexByteString", "internal/bytealg.IndexString", "internal/abi.NoEscape", "internal/bytealg.MakeNoZero"], unfollowed := true, recurses := true, named := ["unicode/utf8.first", "unicode/utf8.acceptRanges", "internal/bytealg.MaxLen"], plainKeys := false, leaving := true, apart := false, laid := [("unicode/utf8.acceptRanges", laid_unicode_utf8_acceptRanges), ("unicode/utf8.first", laid_unicode_utf8_first)], narrowed := true }
def FnExactSameJoinedUptoSaid : Prop := fnExactSameJoinedUptoRow.holds Tryd.pinned (OpenSpec.upto fnExactSameJoinedSpec)

/-- 'laws.FnExactLeastShift', WHERE WHAT IT READS IS OF BULK AT MOST 1048576: true; the input reads as it did. -/
def fnExactLeastShiftUptoRow : OpenClaim := { program := "ytggjponlgndghabdoor", sum := "531390554ba8baf488b624e122dd5748d3244e6bec38e1f0e1116f13306774e5", func := "loop.example/g01294/laws.FnExactLeastShift", spec := "fnExactLeastShift", inPlace := ["internal/bytealg.CountString", "internal/bytealg.IndexByteString", "internal/bytealg.IndexString", "internal/abi.NoEscape", "internal/bytealg.MakeNoZero"], unfollowed := true, recurses := true, named := ["unicode/utf8.first", "unicode/utf8.acceptRanges", "internal/bytealg.MaxLen"], plainKeys := false, leaving := true, apart := false, laid := [("unicode/utf8.acceptRanges", laid_unicode_utf8_acceptRanges), ("unicode/utf8.first", laid_unicode_utf8_first)], narrowed := true }
def FnExactLeastShiftUptoSaid : Prop := fnExactLeastShiftUptoRow.holds Tryd.pinned (OpenSpec.upto fnExactLeastShiftSpec)

/-- 'laws.FnExactAreShifted', WHERE WHAT IT READS IS OF BULK AT MOST 1048576: true; the input reads as it did. -/
def fnExactAreShiftedUptoRow : OpenClaim := { program := "ytggjponlgndghabdoor", sum := "531390554ba8baf488b624e122dd5748d3244e6bec38e1f0e1116f13306774e5", func := "loop.example/g01294/laws.FnExactAreShifted", spec := "fnExactAreShifted", inPlace := ["internal/bytealg.CountString", "internal/bytealg.IndexByteString", "internal/bytealg.IndexString", "internal/abi.NoEscape", "internal/bytealg.MakeNoZero"], unfollowed := true, recurses := true, named := ["unicode/utf8.first", "unicode/utf8.acceptRanges", "internal/bytealg.MaxLen"], plainKeys := false, leaving := true, apart := false, laid := [("unicode/utf8.acceptRanges", laid_unicode_utf8_acceptRanges), ("unicode/utf8.first", laid_unicode_utf8_first)], narrowed := true }
def FnExactAreShiftedUptoSaid : Prop := fnExactAreShiftedUptoRow.holds Tryd.pinned (OpenSpec.upto fnExactAreShiftedSpec)

end Rows
end Go.Proofs.YtggjponlgndghabDoor
