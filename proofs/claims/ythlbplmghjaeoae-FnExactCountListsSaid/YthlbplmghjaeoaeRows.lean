/-
  No cell of these rows narrows 'for every input' (looked for: loops, veiled, ifaces, maps, wideKeys, modest, calm, conditions, laid).
  DERIVED. THE GIVEN ROWS OF THIS SEAT. 7 by the template 'for every input the law returns true; each argument reads behind the call as it read before'; 0 by the template 'total and deterministic' (their statements: YthlbplmghjaeoaeTotals.lean).
  GIVEN WITH THE SEED: the statements are not yours to turn. If you find one false, say at which input.
  Laid BY PROGRAM, IN A SANDBOX (cutbox-rows.mjs): the forced cells as the released guide's own fill.sh prints them over the translation c72c8bdc87803025… (all of the seat's roots in one cut). By AI agents, Wed Nov 11 2026. No macro, syntax, notation, axiom, sorry.
-/
import Derived.Test.YthlbplmghjaeoaeChecked
import GoSem.Claim
import GoSem.ClaimJoined
import GoSem.ClaimMapViews
import Derived.JoinedTies
import Derived.KernelRfl
namespace Go.Proofs.Ythlbplmghjaeoae
/- THE CELL 'sum', in the pinned program and in every row, IS THE sha256 OF THE DUMP (.gsa) THAT YthlbplmghjaeoaeProg.lean LOADS. Nothing in Lean hashes anything: it is a label: what it is worth is what the hold of that sum in a sandbox is worth. -/
noncomputable def Try.pinned : Pinned := { name := "ythlbplmghjaeoae", sum := "c72c8bdc878030256c160e47eeec19f7259cfbff25f673878998fb3c7c26f88a", checked := Try.checked }
namespace Rows
def none {H : Type} : Left H := { results := [], args := [] }

/-- 'laws.FnExactFewestNear': WHATEVER THE INPUT: true; the input reads as it did. -/
def fnExactFewestNearSpec : ChangeSpec := { name := "fnExactFewestNear", fn := fun _ => fun
  | [d1, d2] => { results := [.lit (.bool true)], args := [d1, d2] }
  | _ => none }
def fnExactFewestNearRow : OpenClaim := { program := "ythlbplmghjaeoae", sum := "c72c8bdc878030256c160e47eeec19f7259cfbff25f673878998fb3c7c26f88a", func := "loop.example/g01294/laws.FnExactFewestNear", spec := "fnExactFewestNear", unfollowed := true, recurses := true, plainKeys := false, apart := false }
def FnExactFewestNearSaid : Prop := fnExactFewestNearRow.holds Try.pinned (OpenSpec.ofChange fnExactFewestNearSpec)

/-- ITS FALSE NEIGHBOUR: 'it returns false'. Refute it at one input. -/
def fnExactFewestNearWrong : ChangeSpec := { name := "fnExactFewestNear", fn := fun _ => fun
  | [d1, d2] => { results := [.lit (.bool false)], args := [d1, d2] }
  | _ => none }
def FnExactFewestNearWrongFalsely : Prop := fnExactFewestNearRow.holds Try.pinned (OpenSpec.ofChange fnExactFewestNearWrong)

/-- 'laws.FnExactFirstNear': WHATEVER THE INPUT: true; the input reads as it did. -/
def fnExactFirstNearSpec : ChangeSpec := { name := "fnExactFirstNear", fn := fun _ => fun
  | [d1, d2] => { results := [.lit (.bool true)], args := [d1, d2] }
  | _ => none }
def fnExactFirstNearRow : OpenClaim := { program := "ythlbplmghjaeoae", sum := "c72c8bdc878030256c160e47eeec19f7259cfbff25f673878998fb3c7c26f88a", func := "loop.example/g01294/laws.FnExactFirstNear", spec := "fnExactFirstNear", inPlace := ["internal/abi.NoEscape", "internal/bytealg.MakeNoZero"], unfollowed := true, recurses := true, plainKeys := false, apart := false }
def FnExactFirstNearSaid : Prop := fnExactFirstNearRow.holds Try.pinned (OpenSpec.ofChange fnExactFirstNearSpec)

/-- ITS FALSE NEIGHBOUR: 'it returns false'. Refute it at one input. -/
def fnExactFirstNearWrong : ChangeSpec := { name := "fnExactFirstNear", fn := fun _ => fun
  | [d1, d2] => { results := [.lit (.bool false)], args := [d1, d2] }
  | _ => none }
def FnExactFirstNearWrongFalsely : Prop := fnExactFirstNearRow.holds Try.pinned (OpenSpec.ofChange fnExactFirstNearWrong)

/-- 'laws.FnExactCountWithNumber': WHATEVER THE INPUT: true; the input reads as it did. -/
def fnExactCountWithNumberSpec : ChangeSpec := { name := "fnExactCountWithNumber", fn := fun _ => fun
  | [d1, d2, d3, d4, d5] => { results := [.lit (.bool true)], args := [d1, d2, d3, d4, d5] }
  | _ => none }
def fnExactCountWithNumberRow : OpenClaim := { program := "ythlbplmghjaeoae", sum := "c72c8bdc878030256c160e47eeec19f7259cfbff25f673878998fb3c7c26f88a", func := "loop.example/g01294/laws.FnExactCountWithNumber", spec := "fnExactCountWithNumber", unfollowed := true, recurses := true, plainKeys := false, apart := false }
def FnExactCountWithNumberSaid : Prop := fnExactCountWithNumberRow.holds Try.pinned (OpenSpec.ofChange fnExactCountWithNumberSpec)

/-- ITS FALSE NEIGHBOUR: 'it returns false'. Refute it at one input. -/
def fnExactCountWithNumberWrong : ChangeSpec := { name := "fnExactCountWithNumber", fn := fun _ => fun
  | [d1, d2, d3, d4, d5] => { results := [.lit (.bool false)], args := [d1, d2, d3, d4, d5] }
  | _ => none }
def FnExactCountWithNumberWrongFalsely : Prop := fnExactCountWithNumberRow.holds Try.pinned (OpenSpec.ofChange fnExactCountWithNumberWrong)

/-- 'laws.FnExactCountZeroBoards': WHATEVER THE INPUT: true; the input reads as it did. -/
def fnExactCountZeroBoardsSpec : ChangeSpec := { name := "fnExactCountZeroBoards", fn := fun _ => fun
  | [d1, d2, d3] => { results := [.lit (.bool true)], args := [d1, d2, d3] }
  | _ => none }
def fnExactCountZeroBoardsRow : OpenClaim := { program := "ythlbplmghjaeoae", sum := "c72c8bdc878030256c160e47eeec19f7259cfbff25f673878998fb3c7c26f88a", func := "loop.example/g01294/laws.FnExactCountZeroBoards", spec := "fnExactCountZeroBoards", unfollowed := true, recurses := true, plainKeys := false, apart := false }
def FnExactCountZeroBoardsSaid : Prop := fnExactCountZeroBoardsRow.holds Try.pinned (OpenSpec.ofChange fnExactCountZeroBoardsSpec)

/-- ITS FALSE NEIGHBOUR: 'it returns false'. Refute it at one input. -/
def fnExactCountZeroBoardsWrong : ChangeSpec := { name := "fnExactCountZeroBoards", fn := fun _ => fun
  | [d1, d2, d3] => { results := [.lit (.bool false)], args := [d1, d2, d3] }
  | _ => none }
def FnExactCountZeroBoardsWrongFalsely : Prop := fnExactCountZeroBoardsRow.holds Try.pinned (OpenSpec.ofChange fnExactCountZeroBoardsWrong)

/-- 'laws.FnExactCountLists': WHATEVER THE INPUT: true; the input reads as it did. -/
def fnExactCountListsSpec : ChangeSpec := { name := "fnExactCountLists", fn := fun _ => fun
  | [d] => { results := [.lit (.bool true)], args := [d] }
  | _ => none }
def fnExactCountListsRow : OpenClaim := { program := "ythlbplmghjaeoae", sum := "c72c8bdc878030256c160e47eeec19f7259cfbff25f673878998fb3c7c26f88a", func := "loop.example/g01294/laws.FnExactCountLists", spec := "fnExactCountLists", plainKeys := false, apart := false }
def FnExactCountListsSaid : Prop := fnExactCountListsRow.holds Try.pinned (OpenSpec.ofChange fnExactCountListsSpec)

/-- ITS FALSE NEIGHBOUR: 'it returns false'. Refute it at one input. -/
def fnExactCountListsWrong : ChangeSpec := { name := "fnExactCountLists", fn := fun _ => fun
  | [d] => { results := [.lit (.bool false)], args := [d] }
  | _ => none }
def FnExactCountListsWrongFalsely : Prop := fnExactCountListsRow.holds Try.pinned (OpenSpec.ofChange fnExactCountListsWrong)

/-- 'laws.FnExactHideStrip': WHATEVER THE INPUT: true; the input reads as it did. -/
def fnExactHideStripSpec : ChangeSpec := { name := "fnExactHideStrip", fn := fun _ => fun
  | [d1, d2] => { results := [.lit (.bool true)], args := [d1, d2] }
  | _ => none }
def fnExactHideStripRow : OpenClaim := { program := "ythlbplmghjaeoae", sum := "c72c8bdc878030256c160e47eeec19f7259cfbff25f673878998fb3c7c26f88a", func := "loop.example/g01294/laws.FnExactHideStrip", spec := "fnExactHideStrip", inPlace := ["internal/bytealg.IndexByteString", "internal/bytealg.IndexString", "internal/abi.NoEscape", "internal/bytealg.MakeNoZero"], unfollowed := true, recurses := true, named := ["internal/bytealg.MaxLen"], plainKeys := false, apart := false }
def FnExactHideStripSaid : Prop := fnExactHideStripRow.holds Try.pinned (OpenSpec.ofChange fnExactHideStripSpec)

/-- ITS FALSE NEIGHBOUR: 'it returns false'. Refute it at one input. -/
def fnExactHideStripWrong : ChangeSpec := { name := "fnExactHideStrip", fn := fun _ => fun
  | [d1, d2] => { results := [.lit (.bool false)], args := [d1, d2] }
  | _ => none }
def FnExactHideStripWrongFalsely : Prop := fnExactHideStripRow.holds Try.pinned (OpenSpec.ofChange fnExactHideStripWrong)

/-- 'laws.FnExactDoesFitStrip': WHATEVER THE INPUT: true; the input reads as it did. -/
def fnExactDoesFitStripSpec : ChangeSpec := { name := "fnExactDoesFitStrip", fn := fun _ => fun
  | [d1, d2] => { results := [.lit (.bool true)], args := [d1, d2] }
  | _ => none }
def fnExactDoesFitStripRow : OpenClaim := { program := "ythlbplmghjaeoae", sum := "c72c8bdc878030256c160e47eeec19f7259cfbff25f673878998fb3c7c26f88a", func := "loop.example/g01294/laws.FnExactDoesFitStrip", spec := "fnExactDoesFitStrip", inPlace := ["internal/bytealg.IndexByteString", "internal/bytealg.IndexString", "internal/abi.NoEscape", "internal/bytealg.MakeNoZero"], unfollowed := true, recurses := true, named := ["internal/bytealg.MaxLen"], plainKeys := false, apart := false }
def FnExactDoesFitStripSaid : Prop := fnExactDoesFitStripRow.holds Try.pinned (OpenSpec.ofChange fnExactDoesFitStripSpec)

/-- ITS FALSE NEIGHBOUR: 'it returns false'. Refute it at one input. -/
def fnExactDoesFitStripWrong : ChangeSpec := { name := "fnExactDoesFitStrip", fn := fun _ => fun
  | [d1, d2] => { results := [.lit (.bool false)], args := [d1, d2] }
  | _ => none }
def FnExactDoesFitStripWrongFalsely : Prop := fnExactDoesFitStripRow.holds Try.pinned (OpenSpec.ofChange fnExactDoesFitStripWrong)

/- THE SECOND FORM. 'bulk': how many values and letters a reading holds, each counted each time it is reached (what is shared counts as often as it is met; a slice's spare places count too). A statement '..UptoSaid' is the law's where the arguments, and the package variables that the reading takes, are together of bulk at most 1048576: NARROWER than '..Said'. Prove '..Said' where nothing that the law and all that it calls make is longer than what came in: it says more and counts as full. Else prove '..UptoSaid'. A law counts once. -/
mutual
def uptoBulk {H : Type} : DataW H → Nat
  | .lit (.string bytes) => bytes.length + 1
  | .lit _ => 1
  | .nil => 1
  | .ptr d => uptoBulk d + 1
  | .slice elems spare => uptoBulkAll elems + uptoBulkAll spare + 1
  | .agg parts => uptoBulkAll parts + 1
  | .iface _ d => uptoBulk d + 1
  | .map entries => uptoBulkEntries entries + 1
  | .held _ => 1
def uptoBulkAll {H : Type} : List (DataW H) → Nat
  | [] => 0
  | d :: r => uptoBulk d + uptoBulkAll r
def uptoBulkEntries {H : Type} : List (Lit × DataW H) → Nat
  | [] => 0
  | x :: r => uptoBulkEntry x + uptoBulkEntries r
def uptoBulkEntry {H : Type} : Lit × DataW H → Nat
  | (.string bytes, d) => bytes.length + uptoBulk d + 1
  | (_, d) => uptoBulk d + 1
 end
def uptoSmall : (H : Type) → List (DataW H) → Bool := fun _ ds => decide (uptoBulkAll ds ≤ 1048576)
def OpenSpec.upto (s : _root_.Go.ChangeSpec) : _root_.Go.OpenSpec := { _root_.Go.OpenSpec.ofChange s with cond := some uptoSmall }

/-- 'laws.FnExactFewestNear', WHERE WHAT IT READS IS OF BULK AT MOST 1048576: true; the input reads as it did. -/
def fnExactFewestNearUptoRow : OpenClaim := { program := "ythlbplmghjaeoae", sum := "c72c8bdc878030256c160e47eeec19f7259cfbff25f673878998fb3c7c26f88a", func := "loop.example/g01294/laws.FnExactFewestNear", spec := "fnExactFewestNear", unfollowed := true, recurses := true, plainKeys := false, apart := false, narrowed := true }
def FnExactFewestNearUptoSaid : Prop := fnExactFewestNearUptoRow.holds Try.pinned (OpenSpec.upto fnExactFewestNearSpec)

/-- 'laws.FnExactFirstNear', WHERE WHAT IT READS IS OF BULK AT MOST 1048576: true; the input reads as it did. -/
def fnExactFirstNearUptoRow : OpenClaim := { program := "ythlbplmghjaeoae", sum := "c72c8bdc878030256c160e47eeec19f7259cfbff25f673878998fb3c7c26f88a", func := "loop.example/g01294/laws.FnExactFirstNear", spec := "fnExactFirstNear", inPlace := ["internal/abi.NoEscape", "internal/bytealg.MakeNoZero"], unfollowed := true, recurses := true, plainKeys := false, apart := false, narrowed := true }
def FnExactFirstNearUptoSaid : Prop := fnExactFirstNearUptoRow.holds Try.pinned (OpenSpec.upto fnExactFirstNearSpec)

/-- 'laws.FnExactCountWithNumber', WHERE WHAT IT READS IS OF BULK AT MOST 1048576: true; the input reads as it did. -/
def fnExactCountWithNumberUptoRow : OpenClaim := { program := "ythlbplmghjaeoae", sum := "c72c8bdc878030256c160e47eeec19f7259cfbff25f673878998fb3c7c26f88a", func := "loop.example/g01294/laws.FnExactCountWithNumber", spec := "fnExactCountWithNumber", unfollowed := true, recurses := true, plainKeys := false, apart := false, narrowed := true }
def FnExactCountWithNumberUptoSaid : Prop := fnExactCountWithNumberUptoRow.holds Try.pinned (OpenSpec.upto fnExactCountWithNumberSpec)

/-- 'laws.FnExactCountZeroBoards', WHERE WHAT IT READS IS OF BULK AT MOST 1048576: true; the input reads as it did. -/
def fnExactCountZeroBoardsUptoRow : OpenClaim := { program := "ythlbplmghjaeoae", sum := "c72c8bdc878030256c160e47eeec19f7259cfbff25f673878998fb3c7c26f88a", func := "loop.example/g01294/laws.FnExactCountZeroBoards", spec := "fnExactCountZeroBoards", unfollowed := true, recurses := true, plainKeys := false, apart := false, narrowed := true }
def FnExactCountZeroBoardsUptoSaid : Prop := fnExactCountZeroBoardsUptoRow.holds Try.pinned (OpenSpec.upto fnExactCountZeroBoardsSpec)

/-- 'laws.FnExactCountLists', WHERE WHAT IT READS IS OF BULK AT MOST 1048576: true; the input reads as it did. -/
def fnExactCountListsUptoRow : OpenClaim := { program := "ythlbplmghjaeoae", sum := "c72c8bdc878030256c160e47eeec19f7259cfbff25f673878998fb3c7c26f88a", func := "loop.example/g01294/laws.FnExactCountLists", spec := "fnExactCountLists", plainKeys := false, apart := false, narrowed := true }
def FnExactCountListsUptoSaid : Prop := fnExactCountListsUptoRow.holds Try.pinned (OpenSpec.upto fnExactCountListsSpec)

/-- 'laws.FnExactHideStrip', WHERE WHAT IT READS IS OF BULK AT MOST 1048576: true; the input reads as it did. -/
def fnExactHideStripUptoRow : OpenClaim := { program := "ythlbplmghjaeoae", sum := "c72c8bdc878030256c160e47eeec19f7259cfbff25f673878998fb3c7c26f88a", func := "loop.example/g01294/laws.FnExactHideStrip", spec := "fnExactHideStrip", inPlace := ["internal/bytealg.IndexByteString", "internal/bytealg.IndexString", "internal/abi.NoEscape", "internal/bytealg.MakeNoZero"], unfollowed := true, recurses := true, named := ["internal/bytealg.MaxLen"], plainKeys := false, apart := false, narrowed := true }
def FnExactHideStripUptoSaid : Prop := fnExactHideStripUptoRow.holds Try.pinned (OpenSpec.upto fnExactHideStripSpec)

/-- 'laws.FnExactDoesFitStrip', WHERE WHAT IT READS IS OF BULK AT MOST 1048576: true; the input reads as it did. -/
def fnExactDoesFitStripUptoRow : OpenClaim := { program := "ythlbplmghjaeoae", sum := "c72c8bdc878030256c160e47eeec19f7259cfbff25f673878998fb3c7c26f88a", func := "loop.example/g01294/laws.FnExactDoesFitStrip", spec := "fnExactDoesFitStrip", inPlace := ["internal/bytealg.IndexByteString", "internal/bytealg.IndexString", "internal/abi.NoEscape", "internal/bytealg.MakeNoZero"], unfollowed := true, recurses := true, named := ["internal/bytealg.MaxLen"], plainKeys := false, apart := false, narrowed := true }
def FnExactDoesFitStripUptoSaid : Prop := fnExactDoesFitStripUptoRow.holds Try.pinned (OpenSpec.upto fnExactDoesFitStripSpec)

end Rows
end Go.Proofs.Ythlbplmghjaeoae
