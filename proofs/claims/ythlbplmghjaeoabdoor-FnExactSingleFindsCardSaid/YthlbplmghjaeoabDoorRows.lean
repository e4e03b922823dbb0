/-
  NARROWER THAN 'FOR EVERY INPUT', by the rows' own cells (each row's printed sentence says how): FnExactIsDone: laid · FnExactUnknownNear: laid · FnExactRestAt: laid · FnExactNoteMines: laid · FnExactNoteFree: laid · FnExactDoesAgree: laid · FnExactIsSound: laid · FnExactSingleFinds: laid.
  DERIVED. THE GIVEN ROWS OF THIS SEAT. 8 by the template 'for every input the law returns true; each argument reads behind the call as it read before'; 0 by the template 'total and deterministic' (their statements: YthlbplmghjaeoabDoorTotals.lean).
  GIVEN WITH THE SEED: the statements are not yours to turn. If you find one false, say at which input.
  Laid BY PROGRAM, IN A SANDBOX (cutbox-rows.mjs): the forced cells as the released guide's own fill.sh prints them over the translation bab5a7a214f1422e… (all of the seat's roots in one cut). By AI agents, Wed Nov 11 2026. No macro, syntax, notation, axiom, sorry.
-/
import Derived.Test.YthlbplmghjaeoabDoorChecked
import GoSem.PinnedTables
import GoSem.Claim
import GoSem.ClaimJoined
import GoSem.ClaimMapViews
import Derived.JoinedTies
import Derived.KernelRfl
namespace Go.Proofs.YthlbplmghjaeoabDoor
/- THE CELL 'sum', in the pinned program and in every row, IS THE sha256 OF THE DUMP (.gsa) THAT YthlbplmghjaeoabDoorProg.lean LOADS. Nothing in Lean hashes anything: it is a label: what it is worth is what the hold of that sum in a sandbox is worth. -/
noncomputable def Tryd.pinned : Pinned := { name := "ythlbplmghjaeoabdoor", sum := "bab5a7a214f1422ee5c5dd17ce6b432ab347e47ad11cd7b19ad088894adcbe19", checked := Tryd.checked }
namespace Rows
def none {H : Type} : Left H := { results := [], args := [] }

/- WHAT THE LISTED PACKAGE-LEVEL VARIABLES READ AS WHEN THE CALL BEGINS. Each datum BY PROGRAM (the guide's laid-datum.mjs) off the statement by which the dump's own 'gosem.cut.vars' lays the variable. In a bare row this is a premise. The card (YthlbplmghjaeoabDoorCards.lean) ties it to the program's text. -/
def laid_unicode_utf8_acceptRanges {H : Type} : DataW H := .agg [.agg [.lit (.int .u8 128), .lit (.int .u8 191)], .agg [.lit (.int .u8 160), .lit (.int .u8 191)], .agg [.lit (.int .u8 128), .lit (.int .u8 159)], .agg [.lit (.int .u8 144), .lit (.int .u8 191)], .agg [.lit (.int .u8 128), .lit (.int .u8 143)], .agg [.lit (.int .u8 0), .lit (.int .u8 0)], .agg [.lit (.int .u8 0), .lit (.int .u8 0)], .agg [.lit (.int .u8 0), .lit (.int .u8 0)], .agg [.lit (.int .u8 0), .lit (.int .u8 0)], .agg [.lit (.int .u8 0), .lit (.int .u8 0)], .agg [.lit (.int .u8 0), .lit (.int .u8 0)], .agg [.lit (.int .u8 0), .lit (.int .u8 0)], .agg [.lit (.int .u8 0), .lit (.int .u8 0)], .agg [.lit (.int .u8 0), .lit (.int .u8 0)], .agg [.lit (.int .u8 0), .lit (.int .u8 0)], .agg [.lit (.int .u8 0), .lit (.int .u8 0)]]
/-- One of Go's own tables, pinned by name: the form's constant. -/
def laid_unicode_utf8_first : DataW Unit := Go.Pinned.utf8First
def laid_math_bits_deBruijn64tab {H : Type} : DataW H := .agg [.lit (.int .u8 0), .lit (.int .u8 1), .lit (.int .u8 56), .lit (.int .u8 2), .lit (.int .u8 57), .lit (.int .u8 49), .lit (.int .u8 28), .lit (.int .u8 3), .lit (.int .u8 61), .lit (.int .u8 58), .lit (.int .u8 42), .lit (.int .u8 50), .lit (.int .u8 38), .lit (.int .u8 29), .lit (.int .u8 17), .lit (.int .u8 4), .lit (.int .u8 62), .lit (.int .u8 47), .lit (.int .u8 59), .lit (.int .u8 36), .lit (.int .u8 45), .lit (.int .u8 43), .lit (.int .u8 51), .lit (.int .u8 22), .lit (.int .u8 53), .lit (.int .u8 39), .lit (.int .u8 33), .lit (.int .u8 30), .lit (.int .u8 24), .lit (.int .u8 18), .lit (.int .u8 12), .lit (.int .u8 5), .lit (.int .u8 63), .lit (.int .u8 55), .lit (.int .u8 48), .lit (.int .u8 27), .lit (.int .u8 60), .lit (.int .u8 41), .lit (.int .u8 37), .lit (.int .u8 16), .lit (.int .u8 46), .lit (.int .u8 35), .lit (.int .u8 44), .lit (.int .u8 21), .lit (.int .u8 52), .lit (.int .u8 32), .lit (.int .u8 23), .lit (.int .u8 11), .lit (.int .u8 54), .lit (.int .u8 26), .lit (.int .u8 40), .lit (.int .u8 15), .lit (.int .u8 34), .lit (.int .u8 20), .lit (.int .u8 31), .lit (.int .u8 10), .lit (.int .u8 25), .lit (.int .u8 14), .lit (.int .u8 19), .lit (.int .u8 9), .lit (.int .u8 13), .lit (.int .u8 8), .lit (.int .u8 7), .lit (.int .u8 6)]

/-- 'laws.FnExactIsDone': WHATEVER THE INPUT: true; the input reads as it did. -/
def fnExactIsDoneSpec : ChangeSpec := { name := "fnExactIsDone", fn := fun _ => fun
  | [d] => { results := [.lit (.bool true)], args := [d] }
  | _ => none }
def fnExactIsDoneRow : OpenClaim := { program := "ythlbplmghjaeoabdoor", sum := "bab5a7a214f1422ee5c5dd17ce6b432ab347e47ad11cd7b19ad088894adcbe19", func := "loop.example/g01294/laws.FnExactIsDone", spec := "fnExactIsDone", inPlace := ["internal/bytealg.CountString", "internal/bytealg.IndexByteString", "internal/bytealg.IndexString"], unfollowed := true, recurses := true, named := ["unicode/utf8.first", "unicode/utf8.acceptRanges", "internal/bytealg.MaxLen"], apart := false, laid := [("unicode/utf8.acceptRanges", laid_unicode_utf8_acceptRanges), ("unicode/utf8.first", laid_unicode_utf8_first)] }
def FnExactIsDoneSaid : Prop := fnExactIsDoneRow.holds Tryd.pinned (OpenSpec.ofChange fnExactIsDoneSpec)

/-- ITS FALSE NEIGHBOUR: 'it returns false'. Refute it at one input. -/
def fnExactIsDoneWrong : ChangeSpec := { name := "fnExactIsDone", fn := fun _ => fun
  | [d] => { results := [.lit (.bool false)], args := [d] }
  | _ => none }
def FnExactIsDoneWrongFalsely : Prop := fnExactIsDoneRow.holds Tryd.pinned (OpenSpec.ofChange fnExactIsDoneWrong)

/-- 'laws.FnExactUnknownNear': WHATEVER THE INPUT: true; the input reads as it did. -/
def fnExactUnknownNearSpec : ChangeSpec := { name := "fnExactUnknownNear", fn := fun _ => fun
  | [d1, d2] => { results := [.lit (.bool true)], args := [d1, d2] }
  | _ => none }
def fnExactUnknownNearRow : OpenClaim := { program := "ythlbplmghjaeoabdoor", sum := "bab5a7a214f1422ee5c5dd17ce6b432ab347e47ad11cd7b19ad088894adcbe19", func := "loop.example/g01294/laws.FnExactUnknownNear", spec := "fnExactUnknownNear", inPlace := ["internal/bytealg.CountString", "internal/bytealg.IndexByteString", "internal/bytealg.IndexString"], unfollowed := true, recurses := true, named := ["unicode/utf8.first", "unicode/utf8.acceptRanges", "internal/bytealg.MaxLen", "math/bits.deBruijn64tab"], apart := false, laid := [("math/bits.deBruijn64tab", laid_math_bits_deBruijn64tab), ("unicode/utf8.acceptRanges", laid_unicode_utf8_acceptRanges), ("unicode/utf8.first", laid_unicode_utf8_first)] }
def FnExactUnknownNearSaid : Prop := fnExactUnknownNearRow.holds Tryd.pinned (OpenSpec.ofChange fnExactUnknownNearSpec)

/-- ITS FALSE NEIGHBOUR: 'it returns false'. Refute it at one input. -/
def fnExactUnknownNearWrong : ChangeSpec := { name := "fnExactUnknownNear", fn := fun _ => fun
  | [d1, d2] => { results := [.lit (.bool false)], args := [d1, d2] }
  | _ => none }
def FnExactUnknownNearWrongFalsely : Prop := fnExactUnknownNearRow.holds Tryd.pinned (OpenSpec.ofChange fnExactUnknownNearWrong)

/-- 'laws.FnExactRestAt': WHATEVER THE INPUT: true; the input reads as it did. -/
def fnExactRestAtSpec : ChangeSpec := { name := "fnExactRestAt", fn := fun _ => fun
  | [d1, d2] => { results := [.lit (.bool true)], args := [d1, d2] }
  | _ => none }
def fnExactRestAtRow : OpenClaim := { program := "ythlbplmghjaeoabdoor", sum := "bab5a7a214f1422ee5c5dd17ce6b432ab347e47ad11cd7b19ad088894adcbe19", func := "loop.example/g01294/laws.FnExactRestAt", spec := "fnExactRestAt", inPlace := ["internal/bytealg.CountString", "internal/bytealg.IndexByteString", "internal/bytealg.IndexString"], unfollowed := true, recurses := true, named := ["unicode/utf8.first", "unicode/utf8.acceptRanges", "internal/bytealg.MaxLen"], apart := false, laid := [("unicode/utf8.acceptRanges", laid_unicode_utf8_acceptRanges), ("unicode/utf8.first", laid_unicode_utf8_first)] }
def FnExactRestAtSaid : Prop := fnExactRestAtRow.holds Tryd.pinned (OpenSpec.ofChange fnExactRestAtSpec)

/-- ITS FALSE NEIGHBOUR: 'it returns false'. Refute it at one input. -/
def fnExactRestAtWrong : ChangeSpec := { name := "fnExactRestAt", fn := fun _ => fun
  | [d1, d2] => { results := [.lit (.bool false)], args := [d1, d2] }
  | _ => none }
def FnExactRestAtWrongFalsely : Prop := fnExactRestAtRow.holds Tryd.pinned (OpenSpec.ofChange fnExactRestAtWrong)

/-- 'laws.FnExactNoteMines': WHATEVER THE INPUT: true; the input reads as it did. -/
def fnExactNoteMinesSpec : ChangeSpec := { name := "fnExactNoteMines", fn := fun _ => fun
  | [d1, d2] => { results := [.lit (.bool true)], args := [d1, d2] }
  | _ => none }
def fnExactNoteMinesRow : OpenClaim := { program := "ythlbplmghjaeoabdoor", sum := "bab5a7a214f1422ee5c5dd17ce6b432ab347e47ad11cd7b19ad088894adcbe19", func := "loop.example/g01294/laws.FnExactNoteMines", spec := "fnExactNoteMines", inPlace := ["internal/bytealg.CountString", "internal/bytealg.IndexByteString", "internal/bytealg.IndexString", "internal/abi.NoEscape", "internal/bytealg.MakeNoZero"], unfollowed := true, recurses := true, named := ["unicode/utf8.first", "unicode/utf8.acceptRanges", "internal/bytealg.MaxLen", "math/bits.deBruijn64tab"], apart := false, laid := [("math/bits.deBruijn64tab", laid_math_bits_deBruijn64tab), ("unicode/utf8.acceptRanges", laid_unicode_utf8_acceptRanges), ("unicode/utf8.first", laid_unicode_utf8_first)] }
def FnExactNoteMinesSaid : Prop := fnExactNoteMinesRow.holds Tryd.pinned (OpenSpec.ofChange fnExactNoteMinesSpec)

/-- ITS FALSE NEIGHBOUR: 'it returns false'. Refute it at one input. -/
def fnExactNoteMinesWrong : ChangeSpec := { name := "fnExactNoteMines", fn := fun _ => fun
  | [d1, d2] => { results := [.lit (.bool false)], args := [d1, d2] }
  | _ => none }
def FnExactNoteMinesWrongFalsely : Prop := fnExactNoteMinesRow.holds Tryd.pinned (OpenSpec.ofChange fnExactNoteMinesWrong)

/-- 'laws.FnExactNoteFree': WHATEVER THE INPUT: true; the input reads as it did. -/
def fnExactNoteFreeSpec : ChangeSpec := { name := "fnExactNoteFree", fn := fun _ => fun
  | [d1, d2] => { results := [.lit (.bool true)], args := [d1, d2] }
  | _ => none }
def fnExactNoteFreeRow : OpenClaim := { program := "ythlbplmghjaeoabdoor", sum := "bab5a7a214f1422ee5c5dd17ce6b432ab347e47ad11cd7b19ad088894adcbe19", func := "loop.example/g01294/laws.FnExactNoteFree", spec := "fnExactNoteFree", inPlace := ["internal/bytealg.CountString", "internal/bytealg.IndexByteString", "internal/bytealg.IndexString", "internal/abi.NoEscape", "internal/bytealg.MakeNoZero"], unfollowed := true, recurses := true, named := ["unicode/utf8.first", "unicode/utf8.acceptRanges", "internal/bytealg.MaxLen", "math/bits.deBruijn64tab"], apart := false, laid := [("math/bits.deBruijn64tab", laid_math_bits_deBruijn64tab), ("unicode/utf8.acceptRanges", laid_unicode_utf8_acceptRanges), ("unicode/utf8.first", laid_unicode_utf8_first)] }
def FnExactNoteFreeSaid : Prop := fnExactNoteFreeRow.holds Tryd.pinned (OpenSpec.ofChange fnExactNoteFreeSpec)

/-- ITS FALSE NEIGHBOUR: 'it returns false'. Refute it at one input. -/
def fnExactNoteFreeWrong : ChangeSpec := { name := "fnExactNoteFree", fn := fun _ => fun
  | [d1, d2] => { results := [.lit (.bool false)], args := [d1, d2] }
  | _ => none }
def FnExactNoteFreeWrongFalsely : Prop := fnExactNoteFreeRow.holds Tryd.pinned (OpenSpec.ofChange fnExactNoteFreeWrong)

/-- 'laws.FnExactDoesAgree': WHATEVER THE INPUT: true; the input reads as it did. -/
def fnExactDoesAgreeSpec : ChangeSpec := { name := "fnExactDoesAgree", fn := fun _ => fun
  | [d1, d2] => { results := [.lit (.bool true)], args := [d1, d2] }
  | _ => none }
def fnExactDoesAgreeRow : OpenClaim := { program := "ythlbplmghjaeoabdoor", sum := "bab5a7a214f1422ee5c5dd17ce6b432ab347e47ad11cd7b19ad088894adcbe19", func := "loop.example/g01294/laws.FnExactDoesAgree", spec := "fnExactDoesAgree", inPlace := ["internal/bytealg.CountString", "internal/bytealg.IndexByteString", "internal/bytealg.IndexString"], unfollowed := true, recurses := true, named := ["unicode/utf8.first", "unicode/utf8.acceptRanges", "internal/bytealg.MaxLen"], apart := false, laid := [("unicode/utf8.acceptRanges", laid_unicode_utf8_acceptRanges), ("unicode/utf8.first", laid_unicode_utf8_first)] }
def FnExactDoesAgreeSaid : Prop := fnExactDoesAgreeRow.holds Tryd.pinned (OpenSpec.ofChange fnExactDoesAgreeSpec)

/-- ITS FALSE NEIGHBOUR: 'it returns false'. Refute it at one input. -/
def fnExactDoesAgreeWrong : ChangeSpec := { name := "fnExactDoesAgree", fn := fun _ => fun
  | [d1, d2] => { results := [.lit (.bool false)], args := [d1, d2] }
  | _ => none }
def FnExactDoesAgreeWrongFalsely : Prop := fnExactDoesAgreeRow.holds Tryd.pinned (OpenSpec.ofChange fnExactDoesAgreeWrong)

/-- 'laws.FnExactIsSound': WHATEVER THE INPUT: true; the input reads as it did. -/
def fnExactIsSoundSpec : ChangeSpec := { name := "fnExactIsSound", fn := fun _ => fun
  | [d] => { results := [.lit (.bool true)], args := [d] }
  | _ => none }
def fnExactIsSoundRow : OpenClaim := { program := "ythlbplmghjaeoabdoor", sum := "bab5a7a214f1422ee5c5dd17ce6b432ab347e47ad11cd7b19ad088894adcbe19", func := "loop.example/g01294/laws.FnExactIsSound", spec := "fnExactIsSound", inPlace := ["internal/bytealg.CountString", "internal/bytealg.IndexByteString", "internal/bytealg.IndexString"], unfollowed := true, recurses := true, named := ["unicode/utf8.first", "unicode/utf8.acceptRanges", "internal/bytealg.MaxLen"], apart := false, laid := [("unicode/utf8.acceptRanges", laid_unicode_utf8_acceptRanges), ("unicode/utf8.first", laid_unicode_utf8_first)] }
def FnExactIsSoundSaid : Prop := fnExactIsSoundRow.holds Tryd.pinned (OpenSpec.ofChange fnExactIsSoundSpec)

/-- ITS FALSE NEIGHBOUR: 'it returns false'. Refute it at one input. -/
def fnExactIsSoundWrong : ChangeSpec := { name := "fnExactIsSound", fn := fun _ => fun
  | [d] => { results := [.lit (.bool false)], args := [d] }
  | _ => none }
def FnExactIsSoundWrongFalsely : Prop := fnExactIsSoundRow.holds Tryd.pinned (OpenSpec.ofChange fnExactIsSoundWrong)

/-- 'laws.FnExactSingleFinds': WHATEVER THE INPUT: true; the input reads as it did. -/
def fnExactSingleFindsSpec : ChangeSpec := { name := "fnExactSingleFinds", fn := fun _ => fun
  | [d1, d2] => { results := [.lit (.bool true)], args := [d1, d2] }
  | _ => none }
def fnExactSingleFindsRow : OpenClaim := { program := "ythlbplmghjaeoabdoor", sum := "bab5a7a214f1422ee5c5dd17ce6b432ab347e47ad11cd7b19ad088894adcbe19", func := "loop.example/g01294/laws.FnExactSingleFinds", spec := "fnExactSingleFinds", inPlace := ["internal/bytealg.CountString", "internal/bytealg.IndexByteString", "internal/bytealg.IndexString"], unfollowed := true, recurses := true, named := ["unicode/utf8.first", "unicode/utf8.acceptRanges", "internal/bytealg.MaxLen", "math/bits.deBruijn64tab"], apart := false, laid := [("math/bits.deBruijn64tab", laid_math_bits_deBruijn64tab), ("unicode/utf8.acceptRanges", laid_unicode_utf8_acceptRanges), ("unicode/utf8.first", laid_unicode_utf8_first)] }
def FnExactSingleFindsSaid : Prop := fnExactSingleFindsRow.holds Tryd.pinned (OpenSpec.ofChange fnExactSingleFindsSpec)

/-- ITS FALSE NEIGHBOUR: 'it returns false'. Refute it at one input. -/
def fnExactSingleFindsWrong : ChangeSpec := { name := "fnExactSingleFinds", fn := fun _ => fun
  | [d1, d2] => { results := [.lit (.bool false)], args := [d1, d2] }
  | _ => none }
def FnExactSingleFindsWrongFalsely : Prop := fnExactSingleFindsRow.holds Tryd.pinned (OpenSpec.ofChange fnExactSingleFindsWrong)

/- THE SECOND FORM. 'bulk': how many values and letters a reading holds, each counted each time it is reached (what is shared counts as often as it is met; a slice's spare places count too). A statement '..UptoSaid' is the law's where the arguments, and the package variables that the reading takes, are together of bulk at most 1048576: NARROWER than '..Said'. Prove '..Said' where nothing that the law and all that it calls make is longer than what came in: it says more and counts as full. Else prove '..UptoSaid'. A law counts once. -/
mutual
def uptoBulk {H : Type} : DataW H → Nat
  | .lit (.string bytes) => bytes.length + 1
  | .lit _ => 1
  | .nil => 1
  | .ptr d => uptoBulk d + 1
  | .slice elems spare => uptoBulkAll elems + uptoBulkAll spare + 1
  | .agg parts => uptoBulkAll parts + 1
  | .iface _ d => uptoBulk d + 1
  | .map entries => uptoBulkEntries entries + 1
  | .held _ => 1
def uptoBulkAll {H : Type} : List (DataW H) → Nat
  | [] => 0
  | d :: r => uptoBulk d + uptoBulkAll r
def uptoBulkEntries {H : Type} : List (Lit × DataW H) → Nat
  | [] => 0
  | x :: r => uptoBulkEntry x + uptoBulkEntries r
def uptoBulkEntry {H : Type} : Lit × DataW H → Nat
  | (.string bytes, d) => bytes.length + uptoBulk d + 1
  | (_, d) => uptoBulk d + 1
 end
def uptoSmall : (H : Type) → List (DataW H) → Bool := fun _ ds => decide (uptoBulkAll ds ≤ 1048576)
def OpenSpec.upto (s : _root_.Go.ChangeSpec) : _root_.Go.OpenSpec := { _root_.Go.OpenSpec.ofChange s with cond := some uptoSmall }

/-- 'laws.FnExactIsDone', WHERE WHAT IT READS IS OF BULK AT MOST 1048576: true; the input reads as it did. -/
def fnExactIsDoneUptoRow : OpenClaim := { program := "ythlbplmghjaeoabdoor", sum := "bab5a7a214f1422ee5c5dd17ce6b432ab347e47ad11cd7b19ad088894adcbe19", func := "loop.example/g01294/laws.FnExactIsDone", spec := "fnExactIsDone", inPlace := ["internal/bytealg.CountString", "internal/bytealg.IndexByteString", "internal/bytealg.IndexString"], unfollowed := true, recurses := true, named := ["unicode/utf8.first", "unicode/utf8.acceptRanges", "internal/bytealg.MaxLen"], apart := false, laid := [("unicode/utf8.acceptRanges", laid_unicode_utf8_acceptRanges), ("unicode/utf8.first", laid_unicode_utf8_first)], narrowed := true }
def FnExactIsDoneUptoSaid : Prop := fnExactIsDoneUptoRow.holds Tryd.pinned (OpenSpec.upto fnExactIsDoneSpec)

/-- 'laws.FnExactUnknownNear', WHERE WHAT IT READS IS OF BULK AT MOST 1048576: true; the input reads as it did. -/
def fnExactUnknownNearUptoRow : OpenClaim := { program := "ythlbplmghjaeoabdoor", sum := "bab5a7a214f1422ee5c5dd17ce6b432ab347e47ad11cd7b19ad088894adcbe19", func := "loop.example/g01294/laws.FnExactUnknownNear", spec := "fnExactUnknownNear", inPlace := ["internal/bytealg.CountString", "internal/bytealg.IndexByteString", "internal/bytealg.IndexString"], unfollowed := true, recurses := true, named := ["unicode/utf8.first", "unicode/utf8.acceptRanges", "internal/bytealg.MaxLen", "math/bits.deBruijn64tab"], apart := false, laid := [("math/bits.deBruijn64tab", laid_math_bits_deBruijn64tab), ("unicode/utf8.acceptRanges", laid_unicode_utf8_acceptRanges), ("unicode/utf8.first", laid_unicode_utf8_first)], narrowed := true }
def FnExactUnknownNearUptoSaid : Prop := fnExactUnknownNearUptoRow.holds Tryd.pinned (OpenSpec.upto fnExactUnknownNearSpec)

/-- 'laws.FnExactRestAt', WHERE WHAT IT READS IS OF BULK AT MOST 1048576: true; the input reads as it did. -/
def fnExactRestAtUptoRow : OpenClaim := { program := "ythlbplmghjaeoabdoor", sum := "bab5a7a214f1422ee5c5dd17ce6b432ab347e47ad11cd7b19ad088894adcbe19", func := "loop.example/g01294/laws.FnExactRestAt", spec := "fnExactRestAt", inPlace := ["internal/bytealg.CountString", "internal/bytealg.IndexByteString", "internal/bytealg.IndexString"], unfollowed := true, recurses := true, named := ["unicode/utf8.first", "unicode/utf8.acceptRanges", "internal/bytealg.MaxLen"], apart := false, laid := [("unicode/utf8.acceptRanges", laid_unicode_utf8_acceptRanges), ("unicode/utf8.first", laid_unicode_utf8_first)], narrowed := true }
def FnExactRestAtUptoSaid : Prop := fnExactRestAtUptoRow.holds Tryd.pinned (OpenSpec.upto fnExactRestAtSpec)

/-- 'laws.FnExactNoteMines', WHERE WHAT IT READS IS OF BULK AT MOST 1048576: true; the input reads as it did. -/
def fnExactNoteMinesUptoRow : OpenClaim := { program := "ythlbplmghjaeoabdoor", sum := "bab5a7a214f1422ee5c5dd17ce6b432ab347e47ad11cd7b19ad088894adcbe19", func := "loop.example/g01294/laws.FnExactNoteMines", spec := "fnExactNoteMines", inPlace := ["internal/bytealg.CountString", "internal/bytealg.IndexByteString", "internal/bytealg.IndexString", "internal/abi.NoEscape", "internal/bytealg.MakeNoZero"], unfollowed := true, recurses := true, named := ["unicode/utf8.first", "unicode/utf8.acceptRanges", "internal/bytealg.MaxLen", "math/bits.deBruijn64tab"], apart := false, laid := [("math/bits.deBruijn64tab", laid_math_bits_deBruijn64tab), ("unicode/utf8.acceptRanges", laid_unicode_utf8_acceptRanges), ("unicode/utf8.first", laid_unicode_utf8_first)], narrowed := true }
def FnExactNoteMinesUptoSaid : Prop := fnExactNoteMinesUptoRow.holds Tryd.pinned (OpenSpec.upto fnExactNoteMinesSpec)

/-- 'laws.FnExactNoteFree', WHERE WHAT IT READS IS OF BULK AT MOST 1048576: true; the input reads as it did. -/
def fnExactNoteFreeUptoRow : OpenClaim := { program := "ythlbplmghjaeoabdoor", sum := "bab5a7a214f1422ee5c5dd17ce6b432ab347e47ad11cd7b19ad088894adcbe19", func := "loop.example/g01294/laws.FnExactNoteFree", spec := "fnExactNoteFree", inPlace := ["internal/bytealg.CountString", "internal/bytealg.IndexByteString", "internal/bytealg.IndexString", "internal/abi.NoEscape", "internal/bytealg.MakeNoZero"], unfollowed := true, recurses := true, named := ["unicode/utf8.first", "unicode/utf8.acceptRanges", "internal/bytealg.MaxLen", "math/bits.deBruijn64tab"], apart := false, laid := [("math/bits.deBruijn64tab", laid_math_bits_deBruijn64tab), ("unicode/utf8.acceptRanges", laid_unicode_utf8_acceptRanges), ("unicode/utf8.first", laid_unicode_utf8_first)], narrowed := true }
def FnExactNoteFreeUptoSaid : Prop := fnExactNoteFreeUptoRow.holds Tryd.pinned (OpenSpec.upto fnExactNoteFreeSpec)

/-- 'laws.FnExactDoesAgree', WHERE WHAT IT READS IS OF BULK AT MOST 1048576: true; the input reads as it did. -/
def fnExactDoesAgreeUptoRow : OpenClaim := { program := "ythlbplmghjaeoabdoor", sum := "bab5a7a214f1422ee5c5dd17ce6b432ab347e47ad11cd7b19ad088894adcbe19", func := "loop.example/g01294/laws.FnExactDoesAgree", spec := "fnExactDoesAgree", inPlace := ["internal/bytealg.CountString", "internal/bytealg.IndexByteString", "internal/bytealg.IndexString"], unfollowed := true, recurses := true, named := ["unicode/utf8.first", "unicode/utf8.acceptRanges", "internal/bytealg.MaxLen"], apart := false, laid := [("unicode/utf8.acceptRanges", laid_unicode_utf8_acceptRanges), ("unicode/utf8.first", laid_unicode_utf8_first)], narrowed := true }
def FnExactDoesAgreeUptoSaid : Prop := fnExactDoesAgreeUptoRow.holds Tryd.pinned (OpenSpec.upto fnExactDoesAgreeSpec)

/-- 'laws.FnExactIsSound', WHERE WHAT IT READS IS OF BULK AT MOST 1048576: true; the input reads as it did. -/
def fnExactIsSoundUptoRow : OpenClaim := { program := "ythlbplmghjaeoabdoor", sum := "bab5a7a214f1422ee5c5dd17ce6b432ab347e47ad11cd7b19ad088894adcbe19", func := "loop.example/g01294/laws.FnExactIsSound", spec := "fnExactIsSound", inPlace := ["internal/bytealg.CountString", "internal/bytealg.IndexByteString", "internal/bytealg.IndexString"], unfollowed := true, recurses := true, named := ["unicode/utf8.first", "unicode/utf8.acceptRanges", "internal/bytealg.MaxLen"], apart := false, laid := [("unicode/utf8.acceptRanges", laid_unicode_utf8_acceptRanges), ("unicode/utf8.first", laid_unicode_utf8_first)], narrowed := true }
def FnExactIsSoundUptoSaid : Prop := fnExactIsSoundUptoRow.holds Tryd.pinned (OpenSpec.upto fnExactIsSoundSpec)

/-- 'laws.FnExactSingleFinds', WHERE WHAT IT READS IS OF BULK AT MOST 1048576: true; the input reads as it did. -/
def fnExactSingleFindsUptoRow : OpenClaim := { program := "ythlbplmghjaeoabdoor", sum := "bab5a7a214f1422ee5c5dd17ce6b432ab347e47ad11cd7b19ad088894adcbe19", func := "loop.example/g01294/laws.FnExactSingleFinds", spec := "fnExactSingleFinds", inPlace := ["internal/bytealg.CountString", "internal/bytealg.IndexByteString", "internal/bytealg.IndexString"], unfollowed := true, recurses := true, named := ["unicode/utf8.first", "unicode/utf8.acceptRanges", "internal/bytealg.MaxLen", "math/bits.deBruijn64tab"], apart := false, laid := [("math/bits.deBruijn64tab", laid_math_bits_deBruijn64tab), ("unicode/utf8.acceptRanges", laid_unicode_utf8_acceptRanges), ("unicode/utf8.first", laid_unicode_utf8_first)], narrowed := true }
def FnExactSingleFindsUptoSaid : Prop := fnExactSingleFindsUptoRow.holds Tryd.pinned (OpenSpec.upto fnExactSingleFindsSpec)

end Rows
end Go.Proofs.YthlbplmghjaeoabDoor
