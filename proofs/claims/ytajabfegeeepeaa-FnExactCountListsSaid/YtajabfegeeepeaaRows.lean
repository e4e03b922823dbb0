/-
  No cell of these rows narrows 'for every input' (looked for: loops, veiled, ifaces, maps, wideKeys, modest, calm, conditions, laid).
  DERIVED. THE GIVEN ROWS OF THIS SEAT. 9 by the template 'for every input the law returns true; each argument reads behind the call as it read before'; 0 by the template 'total and deterministic' (their statements: YtajabfegeeepeaaTotals.lean).
  GIVEN WITH THE SEED: the statements are not yours to turn. If you find one false, say at which input.
  Laid BY PROGRAM, IN A SANDBOX (cutbox-rows.mjs): the forced cells as the released guide's own fill.sh prints them over the translation 311a670a5192890d… (all of the seat's roots in one cut). By AI agents, Wed Nov 11 2026. No macro, syntax, notation, axiom, sorry.
-/
import Derived.Test.YtajabfegeeepeaaChecked
import GoSem.Claim
import GoSem.ClaimJoined
import GoSem.ClaimMapViews
import Derived.JoinedTies
import Derived.KernelRfl
namespace Go.Proofs.Ytajabfegeeepeaa
/- THE CELL 'sum', in the pinned program and in every row, IS THE sha256 OF THE DUMP (.gsa) THAT YtajabfegeeepeaaProg.lean LOADS. Nothing in Lean hashes anything: it is a label: what it is worth is what the hold of that sum in a sandbox is worth. -/
noncomputable def Try.pinned : Pinned := { name := "ytajabfegeeepeaa", sum := "311a670a5192890dc11f6e86e253f0daf0b3efaacc45e8f14fe7c0f281231227", checked := Try.checked }
namespace Rows
def none {H : Type} : Left H := { results := [], args := [] }

/-- 'laws.FnExactDoesFitStrip': WHATEVER THE INPUT: true; the input reads as it did. -/
def fnExactDoesFitStripSpec : ChangeSpec := { name := "fnExactDoesFitStrip", fn := fun _ => fun
  | [d1, d2] => { results := [.lit (.bool true)], args := [d1, d2] }
  | _ => none }
def fnExactDoesFitStripRow : OpenClaim := { program := "ytajabfegeeepeaa", sum := "311a670a5192890dc11f6e86e253f0daf0b3efaacc45e8f14fe7c0f281231227", func := "loop.example/g01294/laws.FnExactDoesFitStrip", spec := "fnExactDoesFitStrip", inPlace := ["internal/bytealg.IndexByteString", "internal/bytealg.IndexString", "internal/abi.NoEscape", "internal/bytealg.MakeNoZero"], unfollowed := true, recurses := true, named := ["internal/bytealg.MaxLen"], plainKeys := false, apart := false }
def FnExactDoesFitStripSaid : Prop := fnExactDoesFitStripRow.holds Try.pinned (OpenSpec.ofChange fnExactDoesFitStripSpec)

/-- ITS FALSE NEIGHBOUR: 'it returns false'. Refute it at one input. -/
def fnExactDoesFitStripWrong : ChangeSpec := { name := "fnExactDoesFitStrip", fn := fun _ => fun
  | [d1, d2] => { results := [.lit (.bool false)], args := [d1, d2] }
  | _ => none }
def FnExactDoesFitStripWrongFalsely : Prop := fnExactDoesFitStripRow.holds Try.pinned (OpenSpec.ofChange fnExactDoesFitStripWrong)

/-- 'laws.FnExactHideStrip': WHATEVER THE INPUT: true; the input reads as it did. -/
def fnExactHideStripSpec : ChangeSpec := { name := "fnExactHideStrip", fn := fun _ => fun
  | [d1, d2] => { results := [.lit (.bool true)], args := [d1, d2] }
  | _ => none }
def fnExactHideStripRow : OpenClaim := { program := "ytajabfegeeepeaa", sum := "311a670a5192890dc11f6e86e253f0daf0b3efaacc45e8f14fe7c0f281231227", func := "loop.example/g01294/laws.FnExactHideStrip", spec := "fnExactHideStrip", inPlace := ["internal/bytealg.IndexByteString", "internal/bytealg.IndexString", "internal/abi.NoEscape", "internal/bytealg.MakeNoZero"], unfollowed := true, recurses := true, named := ["internal/bytealg.MaxLen"], plainKeys := false, apart := false }
def FnExactHideStripSaid : Prop := fnExactHideStripRow.holds Try.pinned (OpenSpec.ofChange fnExactHideStripSpec)

/-- ITS FALSE NEIGHBOUR: 'it returns false'. Refute it at one input. -/
def fnExactHideStripWrong : ChangeSpec := { name := "fnExactHideStrip", fn := fun _ => fun
  | [d1, d2] => { results := [.lit (.bool false)], args := [d1, d2] }
  | _ => none }
def FnExactHideStripWrongFalsely : Prop := fnExactHideStripRow.holds Try.pinned (OpenSpec.ofChange fnExactHideStripWrong)

/-- 'laws.FnExactRankOfStrip': WHATEVER THE INPUT: true; the input reads as it did. -/
def fnExactRankOfStripSpec : ChangeSpec := { name := "fnExactRankOfStrip", fn := fun _ => fun
  | [d1, d2] => { results := [.lit (.bool true)], args := [d1, d2] }
  | _ => none }
def fnExactRankOfStripRow : OpenClaim := { program := "ytajabfegeeepeaa", sum := "311a670a5192890dc11f6e86e253f0daf0b3efaacc45e8f14fe7c0f281231227", func := "loop.example/g01294/laws.FnExactRankOfStrip", spec := "fnExactRankOfStrip", inPlace := ["internal/bytealg.IndexByteString", "internal/bytealg.IndexString", "internal/abi.NoEscape", "internal/bytealg.MakeNoZero"], unfollowed := true, recurses := true, named := ["internal/bytealg.MaxLen"], plainKeys := false, apart := false }
def FnExactRankOfStripSaid : Prop := fnExactRankOfStripRow.holds Try.pinned (OpenSpec.ofChange fnExactRankOfStripSpec)

/-- ITS FALSE NEIGHBOUR: 'it returns false'. Refute it at one input. -/
def fnExactRankOfStripWrong : ChangeSpec := { name := "fnExactRankOfStrip", fn := fun _ => fun
  | [d1, d2] => { results := [.lit (.bool false)], args := [d1, d2] }
  | _ => none }
def FnExactRankOfStripWrongFalsely : Prop := fnExactRankOfStripRow.holds Try.pinned (OpenSpec.ofChange fnExactRankOfStripWrong)

/-- 'laws.FnExactCountStripAt': WHATEVER THE INPUT: true; the input reads as it did. -/
def fnExactCountStripAtSpec : ChangeSpec := { name := "fnExactCountStripAt", fn := fun _ => fun
  | [d1, d2] => { results := [.lit (.bool true)], args := [d1, d2] }
  | _ => none }
def fnExactCountStripAtRow : OpenClaim := { program := "ytajabfegeeepeaa", sum := "311a670a5192890dc11f6e86e253f0daf0b3efaacc45e8f14fe7c0f281231227", func := "loop.example/g01294/laws.FnExactCountStripAt", spec := "fnExactCountStripAt", inPlace := ["internal/bytealg.IndexByteString", "internal/bytealg.IndexString", "internal/abi.NoEscape", "internal/bytealg.MakeNoZero"], unfollowed := true, recurses := true, named := ["internal/bytealg.MaxLen"], plainKeys := false, apart := false }
def FnExactCountStripAtSaid : Prop := fnExactCountStripAtRow.holds Try.pinned (OpenSpec.ofChange fnExactCountStripAtSpec)

/-- ITS FALSE NEIGHBOUR: 'it returns false'. Refute it at one input. -/
def fnExactCountStripAtWrong : ChangeSpec := { name := "fnExactCountStripAt", fn := fun _ => fun
  | [d1, d2] => { results := [.lit (.bool false)], args := [d1, d2] }
  | _ => none }
def FnExactCountStripAtWrongFalsely : Prop := fnExactCountStripAtRow.holds Try.pinned (OpenSpec.ofChange fnExactCountStripAtWrong)

/-- 'laws.FnExactSureStrip': WHATEVER THE INPUT: true; the input reads as it did. -/
def fnExactSureStripSpec : ChangeSpec := { name := "fnExactSureStrip", fn := fun _ => fun
  | [d] => { results := [.lit (.bool true)], args := [d] }
  | _ => none }
def fnExactSureStripRow : OpenClaim := { program := "ytajabfegeeepeaa", sum := "311a670a5192890dc11f6e86e253f0daf0b3efaacc45e8f14fe7c0f281231227", func := "loop.example/g01294/laws.FnExactSureStrip", spec := "fnExactSureStrip", inPlace := ["internal/bytealg.IndexByteString", "internal/bytealg.IndexString", "internal/abi.NoEscape", "internal/bytealg.MakeNoZero"], unfollowed := true, recurses := true, named := ["internal/bytealg.MaxLen"], plainKeys := false, apart := false }
def FnExactSureStripSaid : Prop := fnExactSureStripRow.holds Try.pinned (OpenSpec.ofChange fnExactSureStripSpec)

/-- ITS FALSE NEIGHBOUR: 'it returns false'. Refute it at one input. -/
def fnExactSureStripWrong : ChangeSpec := { name := "fnExactSureStrip", fn := fun _ => fun
  | [d] => { results := [.lit (.bool false)], args := [d] }
  | _ => none }
def FnExactSureStripWrongFalsely : Prop := fnExactSureStripRow.holds Try.pinned (OpenSpec.ofChange fnExactSureStripWrong)

/-- 'laws.FnExactLongestFree': WHATEVER THE INPUT: true; the input reads as it did. -/
def fnExactLongestFreeSpec : ChangeSpec := { name := "fnExactLongestFree", fn := fun _ => fun
  | [d] => { results := [.lit (.bool true)], args := [d] }
  | _ => none }
def fnExactLongestFreeRow : OpenClaim := { program := "ytajabfegeeepeaa", sum := "311a670a5192890dc11f6e86e253f0daf0b3efaacc45e8f14fe7c0f281231227", func := "loop.example/g01294/laws.FnExactLongestFree", spec := "fnExactLongestFree", inPlace := ["internal/bytealg.IndexByteString", "internal/bytealg.IndexString", "internal/abi.NoEscape", "internal/bytealg.MakeNoZero"], unfollowed := true, recurses := true, named := ["internal/bytealg.MaxLen"], plainKeys := false, apart := false }
def FnExactLongestFreeSaid : Prop := fnExactLongestFreeRow.holds Try.pinned (OpenSpec.ofChange fnExactLongestFreeSpec)

/-- ITS FALSE NEIGHBOUR: 'it returns false'. Refute it at one input. -/
def fnExactLongestFreeWrong : ChangeSpec := { name := "fnExactLongestFree", fn := fun _ => fun
  | [d] => { results := [.lit (.bool false)], args := [d] }
  | _ => none }
def FnExactLongestFreeWrongFalsely : Prop := fnExactLongestFreeRow.holds Try.pinned (OpenSpec.ofChange fnExactLongestFreeWrong)

/-- 'laws.FnExactCountStripSums': WHATEVER THE INPUT: true; the input reads as it did. -/
def fnExactCountStripSumsSpec : ChangeSpec := { name := "fnExactCountStripSums", fn := fun _ => fun
  | [d1, d2] => { results := [.lit (.bool true)], args := [d1, d2] }
  | _ => none }
def fnExactCountStripSumsRow : OpenClaim := { program := "ytajabfegeeepeaa", sum := "311a670a5192890dc11f6e86e253f0daf0b3efaacc45e8f14fe7c0f281231227", func := "loop.example/g01294/laws.FnExactCountStripSums", spec := "fnExactCountStripSums", unfollowed := true, recurses := true, plainKeys := false, apart := false }
def FnExactCountStripSumsSaid : Prop := fnExactCountStripSumsRow.holds Try.pinned (OpenSpec.ofChange fnExactCountStripSumsSpec)

/-- ITS FALSE NEIGHBOUR: 'it returns false'. Refute it at one input. -/
def fnExactCountStripSumsWrong : ChangeSpec := { name := "fnExactCountStripSums", fn := fun _ => fun
  | [d1, d2] => { results := [.lit (.bool false)], args := [d1, d2] }
  | _ => none }
def FnExactCountStripSumsWrongFalsely : Prop := fnExactCountStripSumsRow.holds Try.pinned (OpenSpec.ofChange fnExactCountStripSumsWrong)

/-- 'laws.FnExactCountLists': WHATEVER THE INPUT: true; the input reads as it did. -/
def fnExactCountListsSpec : ChangeSpec := { name := "fnExactCountLists", fn := fun _ => fun
  | [d] => { results := [.lit (.bool true)], args := [d] }
  | _ => none }
def fnExactCountListsRow : OpenClaim := { program := "ytajabfegeeepeaa", sum := "311a670a5192890dc11f6e86e253f0daf0b3efaacc45e8f14fe7c0f281231227", func := "loop.example/g01294/laws.FnExactCountLists", spec := "fnExactCountLists", plainKeys := false, apart := false }
def FnExactCountListsSaid : Prop := fnExactCountListsRow.holds Try.pinned (OpenSpec.ofChange fnExactCountListsSpec)

/-- ITS FALSE NEIGHBOUR: 'it returns false'. Refute it at one input. -/
def fnExactCountListsWrong : ChangeSpec := { name := "fnExactCountLists", fn := fun _ => fun
  | [d] => { results := [.lit (.bool false)], args := [d] }
  | _ => none }
def FnExactCountListsWrongFalsely : Prop := fnExactCountListsRow.holds Try.pinned (OpenSpec.ofChange fnExactCountListsWrong)

/-- 'laws.FnExactCountToldBoards': WHATEVER THE INPUT: true; the input reads as it did. -/
def fnExactCountToldBoardsSpec : ChangeSpec := { name := "fnExactCountToldBoards", fn := fun _ => fun
  | [d1, d2] => { results := [.lit (.bool true)], args := [d1, d2] }
  | _ => none }
def fnExactCountToldBoardsRow : OpenClaim := { program := "ytajabfegeeepeaa", sum := "311a670a5192890dc11f6e86e253f0daf0b3efaacc45e8f14fe7c0f281231227", func := "loop.example/g01294/laws.FnExactCountToldBoards", spec := "fnExactCountToldBoards", recurses := true, plainKeys := false, apart := false }
def FnExactCountToldBoardsSaid : Prop := fnExactCountToldBoardsRow.holds Try.pinned (OpenSpec.ofChange fnExactCountToldBoardsSpec)

/-- ITS FALSE NEIGHBOUR: 'it returns false'. Refute it at one input. -/
def fnExactCountToldBoardsWrong : ChangeSpec := { name := "fnExactCountToldBoards", fn := fun _ => fun
  | [d1, d2] => { results := [.lit (.bool false)], args := [d1, d2] }
  | _ => none }
def FnExactCountToldBoardsWrongFalsely : Prop := fnExactCountToldBoardsRow.holds Try.pinned (OpenSpec.ofChange fnExactCountToldBoardsWrong)

/- THE SECOND FORM. 'bulk': how many values and letters a reading holds, each counted each time it is reached (what is shared counts as often as it is met; a slice's spare places count too). A statement '..UptoSaid' is the law's where the arguments, and the package variables that the reading takes, are together of bulk at most 1048576: NARROWER than '..Said'. Prove '..Said' where nothing that the law and all that it calls make is longer than what came in: it says more and counts as full. Else prove '..UptoSaid'. A law counts once. -/
mutual
def uptoBulk {H : Type} : DataW H → Nat
  | .lit (.string bytes) => bytes.length + 1
  | .lit _ => 1
  | .nil => 1
  | .ptr d => uptoBulk d + 1
  | .slice elems spare => uptoBulkAll elems + uptoBulkAll spare + 1
  | .agg parts => uptoBulkAll parts + 1
  | .iface _ d => uptoBulk d + 1
  | .map entries => uptoBulkEntries entries + 1
  | .held _ => 1
def uptoBulkAll {H : Type} : List (DataW H) → Nat
  | [] => 0
  | d :: r => uptoBulk d + uptoBulkAll r
def uptoBulkEntries {H : Type} : List (Lit × DataW H) → Nat
  | [] => 0
  | x :: r => uptoBulkEntry x + uptoBulkEntries r
def uptoBulkEntry {H : Type} : Lit × DataW H → Nat
  | (.string bytes, d) => bytes.length + uptoBulk d + 1
  | (_, d) => uptoBulk d + 1
 end
def uptoSmall : (H : Type) → List (DataW H) → Bool := fun _ ds => decide (uptoBulkAll ds ≤ 1048576)
def OpenSpec.upto (s : _root_.Go.ChangeSpec) : _root_.Go.OpenSpec := { _root_.Go.OpenSpec.ofChange s with cond := some uptoSmall }

/-- 'laws.FnExactDoesFitStrip', WHERE WHAT IT READS IS OF BULK AT MOST 1048576: true; the input reads as it did. -/
def fnExactDoesFitStripUptoRow : OpenClaim := { program := "ytajabfegeeepeaa", sum := "311a670a5192890dc11f6e86e253f0daf0b3efaacc45e8f14fe7c0f281231227", func := "loop.example/g01294/laws.FnExactDoesFitStrip", spec := "fnExactDoesFitStrip", inPlace := ["internal/bytealg.IndexByteString", "internal/bytealg.IndexString", "internal/abi.NoEscape", "internal/bytealg.MakeNoZero"], unfollowed := true, recurses := true, named := ["internal/bytealg.MaxLen"], plainKeys := false, apart := false, narrowed := true }
def FnExactDoesFitStripUptoSaid : Prop := fnExactDoesFitStripUptoRow.holds Try.pinned (OpenSpec.upto fnExactDoesFitStripSpec)

/-- 'laws.FnExactHideStrip', WHERE WHAT IT READS IS OF BULK AT MOST 1048576: true; the input reads as it did. -/
def fnExactHideStripUptoRow : OpenClaim := { program := "ytajabfegeeepeaa", sum := "311a670a5192890dc11f6e86e253f0daf0b3efaacc45e8f14fe7c0f281231227", func := "loop.example/g01294/laws.FnExactHideStrip", spec := "fnExactHideStrip", inPlace := ["internal/bytealg.IndexByteString", "internal/bytealg.IndexString", "internal/abi.NoEscape", "internal/bytealg.MakeNoZero"], unfollowed := true, recurses := true, named := ["internal/bytealg.MaxLen"], plainKeys := false, apart := false, narrowed := true }
def FnExactHideStripUptoSaid : Prop := fnExactHideStripUptoRow.holds Try.pinned (OpenSpec.upto fnExactHideStripSpec)

/-- 'laws.FnExactRankOfStrip', WHERE WHAT IT READS IS OF BULK AT MOST 1048576: true; the input reads as it did. -/
def fnExactRankOfStripUptoRow : OpenClaim := { program := "ytajabfegeeepeaa", sum := "311a670a5192890dc11f6e86e253f0daf0b3efaacc45e8f14fe7c0f281231227", func := "loop.example/g01294/laws.FnExactRankOfStrip", spec := "fnExactRankOfStrip", inPlace := ["internal/bytealg.IndexByteString", "internal/bytealg.IndexString", "internal/abi.NoEscape", "internal/bytealg.MakeNoZero"], unfollowed := true, recurses := true, named := ["internal/bytealg.MaxLen"], plainKeys := false, apart := false, narrowed := true }
def FnExactRankOfStripUptoSaid : Prop := fnExactRankOfStripUptoRow.holds Try.pinned (OpenSpec.upto fnExactRankOfStripSpec)

/-- 'laws.FnExactCountStripAt', WHERE WHAT IT READS IS OF BULK AT MOST 1048576: true; the input reads as it did. -/
def fnExactCountStripAtUptoRow : OpenClaim := { program := "ytajabfegeeepeaa", sum := "311a670a5192890dc11f6e86e253f0daf0b3efaacc45e8f14fe7c0f281231227", func := "loop.example/g01294/laws.FnExactCountStripAt", spec := "fnExactCountStripAt", inPlace := ["internal/bytealg.IndexByteString", "internal/bytealg.IndexString", "internal/abi.NoEscape", "internal/bytealg.MakeNoZero"], unfollowed := true, recurses := true, named := ["internal/bytealg.MaxLen"], plainKeys := false, apart := false, narrowed := true }
def FnExactCountStripAtUptoSaid : Prop := fnExactCountStripAtUptoRow.holds Try.pinned (OpenSpec.upto fnExactCountStripAtSpec)

/-- 'laws.FnExactSureStrip', WHERE WHAT IT READS IS OF BULK AT MOST 1048576: true; the input reads as it did. -/
def fnExactSureStripUptoRow : OpenClaim := { program := "ytajabfegeeepeaa", sum := "311a670a5192890dc11f6e86e253f0daf0b3efaacc45e8f14fe7c0f281231227", func := "loop.example/g01294/laws.FnExactSureStrip", spec := "fnExactSureStrip", inPlace := ["internal/bytealg.IndexByteString", "internal/bytealg.IndexString", "internal/abi.NoEscape", "internal/bytealg.MakeNoZero"], unfollowed := true, recurses := true, named := ["internal/bytealg.MaxLen"], plainKeys := false, apart := false, narrowed := true }
def FnExactSureStripUptoSaid : Prop := fnExactSureStripUptoRow.holds Try.pinned (OpenSpec.upto fnExactSureStripSpec)

/-- 'laws.FnExactLongestFree', WHERE WHAT IT READS IS OF BULK AT MOST 1048576: true; the input reads as it did. -/
def fnExactLongestFreeUptoRow : OpenClaim := { program := "ytajabfegeeepeaa", sum := "311a670a5192890dc11f6e86e253f0daf0b3efaacc45e8f14fe7c0f281231227", func := "loop.example/g01294/laws.FnExactLongestFree", spec := "fnExactLongestFree", inPlace := ["internal/bytealg.IndexByteString", "internal/bytealg.IndexString", "internal/abi.NoEscape", "internal/bytealg.MakeNoZero"], unfollowed := true, recurses := true, named := ["internal/bytealg.MaxLen"], plainKeys := false, apart := false, narrowed := true }
def FnExactLongestFreeUptoSaid : Prop := fnExactLongestFreeUptoRow.holds Try.pinned (OpenSpec.upto fnExactLongestFreeSpec)

/-- 'laws.FnExactCountStripSums', WHERE WHAT IT READS IS OF BULK AT MOST 1048576: true; the input reads as it did. -/
def fnExactCountStripSumsUptoRow : OpenClaim := { program := "ytajabfegeeepeaa", sum := "311a670a5192890dc11f6e86e253f0daf0b3efaacc45e8f14fe7c0f281231227", func := "loop.example/g01294/laws.FnExactCountStripSums", spec := "fnExactCountStripSums", unfollowed := true, recurses := true, plainKeys := false, apart := false, narrowed := true }
def FnExactCountStripSumsUptoSaid : Prop := fnExactCountStripSumsUptoRow.holds Try.pinned (OpenSpec.upto fnExactCountStripSumsSpec)

/-- 'laws.FnExactCountLists', WHERE WHAT IT READS IS OF BULK AT MOST 1048576: true; the input reads as it did. -/
def fnExactCountListsUptoRow : OpenClaim := { program := "ytajabfegeeepeaa", sum := "311a670a5192890dc11f6e86e253f0daf0b3efaacc45e8f14fe7c0f281231227", func := "loop.example/g01294/laws.FnExactCountLists", spec := "fnExactCountLists", plainKeys := false, apart := false, narrowed := true }
def FnExactCountListsUptoSaid : Prop := fnExactCountListsUptoRow.holds Try.pinned (OpenSpec.upto fnExactCountListsSpec)

/-- 'laws.FnExactCountToldBoards', WHERE WHAT IT READS IS OF BULK AT MOST 1048576: true; the input reads as it did. -/
def fnExactCountToldBoardsUptoRow : OpenClaim := { program := "ytajabfegeeepeaa", sum := "311a670a5192890dc11f6e86e253f0daf0b3efaacc45e8f14fe7c0f281231227", func := "loop.example/g01294/laws.FnExactCountToldBoards", spec := "fnExactCountToldBoards", recurses := true, plainKeys := false, apart := false, narrowed := true }
def FnExactCountToldBoardsUptoSaid : Prop := fnExactCountToldBoardsUptoRow.holds Try.pinned (OpenSpec.upto fnExactCountToldBoardsSpec)

end Rows
end Go.Proofs.Ytajabfegeeepeaa
