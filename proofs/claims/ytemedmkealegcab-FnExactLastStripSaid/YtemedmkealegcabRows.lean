/-
  No cell of these rows narrows 'for every input' (looked for: loops, veiled, ifaces, maps, wideKeys, modest, calm, conditions, laid).
  DERIVED. THE GIVEN ROWS OF THIS SEAT. 9 by the template 'for every input the law returns true; each argument reads behind the call as it read before'; 0 by the template 'total and deterministic' (their statements: YtemedmkealegcabTotals.lean).
  GIVEN WITH THE SEED: the statements are not yours to turn. If you find one false, say at which input.
  Laid BY PROGRAM, IN A SANDBOX (cutbox-rows.mjs): the forced cells as the released guide's own fill.sh prints them over the translation 70418db9a712518b… (all of the seat's roots in one cut). By AI agents, Wed Nov 11 2026. No macro, syntax, notation, axiom, sorry.
-/
import Derived.Test.YtemedmkealegcabChecked
import GoSem.Claim
import GoSem.ClaimJoined
import GoSem.ClaimMapViews
import Derived.JoinedTies
import Derived.KernelRfl
namespace Go.Proofs.Ytemedmkealegcab
/- THE CELL 'sum', in the pinned program and in every row, IS THE sha256 OF THE DUMP (.gsa) THAT YtemedmkealegcabProg.lean LOADS. Nothing in Lean hashes anything: it is a label: what it is worth is what the hold of that sum in a sandbox is worth. -/
noncomputable def Try.pinned : Pinned := { name := "ytemedmkealegcab", sum := "70418db9a712518b6aa617a3808151fba743534bb981a426a3c4bfc2c2b32406", checked := Try.checked }
namespace Rows
def none {H : Type} : Left H := { results := [], args := [] }

/-- 'laws.FnExactFirstStrip': WHATEVER THE INPUT: true; the input reads as it did. -/
def fnExactFirstStripSpec : ChangeSpec := { name := "fnExactFirstStrip", fn := fun _ => fun
  | [d] => { results := [.lit (.bool true)], args := [d] }
  | _ => none }
def fnExactFirstStripRow : OpenClaim := { program := "ytemedmkealegcab", sum := "70418db9a712518b6aa617a3808151fba743534bb981a426a3c4bfc2c2b32406", func := "loop.example/g01294/laws.FnExactFirstStrip", spec := "fnExactFirstStrip", inPlace := ["internal/bytealg.IndexByteString", "internal/bytealg.IndexString"], unfollowed := true, recurses := true, named := ["internal/bytealg.MaxLen"], plainKeys := false, apart := false }
def FnExactFirstStripSaid : Prop := fnExactFirstStripRow.holds Try.pinned (OpenSpec.ofChange fnExactFirstStripSpec)

/-- ITS FALSE NEIGHBOUR: 'it returns false'. Refute it at one input. -/
def fnExactFirstStripWrong : ChangeSpec := { name := "fnExactFirstStrip", fn := fun _ => fun
  | [d] => { results := [.lit (.bool false)], args := [d] }
  | _ => none }
def FnExactFirstStripWrongFalsely : Prop := fnExactFirstStripRow.holds Try.pinned (OpenSpec.ofChange fnExactFirstStripWrong)

/-- 'laws.FnExactLastStrip': WHATEVER THE INPUT: true; the input reads as it did. -/
def fnExactLastStripSpec : ChangeSpec := { name := "fnExactLastStrip", fn := fun _ => fun
  | [d] => { results := [.lit (.bool true)], args := [d] }
  | _ => none }
def fnExactLastStripRow : OpenClaim := { program := "ytemedmkealegcab", sum := "70418db9a712518b6aa617a3808151fba743534bb981a426a3c4bfc2c2b32406", func := "loop.example/g01294/laws.FnExactLastStrip", spec := "fnExactLastStrip", inPlace := ["internal/bytealg.IndexByteString", "internal/bytealg.IndexString"], unfollowed := true, recurses := true, named := ["internal/bytealg.MaxLen"], plainKeys := false, apart := false }
def FnExactLastStripSaid : Prop := fnExactLastStripRow.holds Try.pinned (OpenSpec.ofChange fnExactLastStripSpec)

/-- ITS FALSE NEIGHBOUR: 'it returns false'. Refute it at one input. -/
def fnExactLastStripWrong : ChangeSpec := { name := "fnExactLastStrip", fn := fun _ => fun
  | [d] => { results := [.lit (.bool false)], args := [d] }
  | _ => none }
def FnExactLastStripWrongFalsely : Prop := fnExactLastStripRow.holds Try.pinned (OpenSpec.ofChange fnExactLastStripWrong)

/-- 'laws.FnExactStripOfRank': WHATEVER THE INPUT: true; the input reads as it did. -/
def fnExactStripOfRankSpec : ChangeSpec := { name := "fnExactStripOfRank", fn := fun _ => fun
  | [d1, d2] => { results := [.lit (.bool true)], args := [d1, d2] }
  | _ => none }
def fnExactStripOfRankRow : OpenClaim := { program := "ytemedmkealegcab", sum := "70418db9a712518b6aa617a3808151fba743534bb981a426a3c4bfc2c2b32406", func := "loop.example/g01294/laws.FnExactStripOfRank", spec := "fnExactStripOfRank", inPlace := ["internal/bytealg.IndexByteString", "internal/bytealg.IndexString"], unfollowed := true, recurses := true, named := ["internal/bytealg.MaxLen"], plainKeys := false, apart := false }
def FnExactStripOfRankSaid : Prop := fnExactStripOfRankRow.holds Try.pinned (OpenSpec.ofChange fnExactStripOfRankSpec)

/-- ITS FALSE NEIGHBOUR: 'it returns false'. Refute it at one input. -/
def fnExactStripOfRankWrong : ChangeSpec := { name := "fnExactStripOfRank", fn := fun _ => fun
  | [d1, d2] => { results := [.lit (.bool false)], args := [d1, d2] }
  | _ => none }
def FnExactStripOfRankWrongFalsely : Prop := fnExactStripOfRankRow.holds Try.pinned (OpenSpec.ofChange fnExactStripOfRankWrong)

/-- 'laws.FnExactRankOfStrip': WHATEVER THE INPUT: true; the input reads as it did. -/
def fnExactRankOfStripSpec : ChangeSpec := { name := "fnExactRankOfStrip", fn := fun _ => fun
  | [d1, d2] => { results := [.lit (.bool true)], args := [d1, d2] }
  | _ => none }
def fnExactRankOfStripRow : OpenClaim := { program := "ytemedmkealegcab", sum := "70418db9a712518b6aa617a3808151fba743534bb981a426a3c4bfc2c2b32406", func := "loop.example/g01294/laws.FnExactRankOfStrip", spec := "fnExactRankOfStrip", inPlace := ["internal/bytealg.IndexByteString", "internal/bytealg.IndexString", "internal/abi.NoEscape", "internal/bytealg.MakeNoZero"], unfollowed := true, recurses := true, named := ["internal/bytealg.MaxLen"], plainKeys := false, apart := false }
def FnExactRankOfStripSaid : Prop := fnExactRankOfStripRow.holds Try.pinned (OpenSpec.ofChange fnExactRankOfStripSpec)

/-- ITS FALSE NEIGHBOUR: 'it returns false'. Refute it at one input. -/
def fnExactRankOfStripWrong : ChangeSpec := { name := "fnExactRankOfStrip", fn := fun _ => fun
  | [d1, d2] => { results := [.lit (.bool false)], args := [d1, d2] }
  | _ => none }
def FnExactRankOfStripWrongFalsely : Prop := fnExactRankOfStripRow.holds Try.pinned (OpenSpec.ofChange fnExactRankOfStripWrong)

/-- 'laws.FnExactSureStrip': WHATEVER THE INPUT: true; the input reads as it did. -/
def fnExactSureStripSpec : ChangeSpec := { name := "fnExactSureStrip", fn := fun _ => fun
  | [d] => { results := [.lit (.bool true)], args := [d] }
  | _ => none }
def fnExactSureStripRow : OpenClaim := { program := "ytemedmkealegcab", sum := "70418db9a712518b6aa617a3808151fba743534bb981a426a3c4bfc2c2b32406", func := "loop.example/g01294/laws.FnExactSureStrip", spec := "fnExactSureStrip", inPlace := ["internal/bytealg.IndexByteString", "internal/bytealg.IndexString", "internal/abi.NoEscape", "internal/bytealg.MakeNoZero"], unfollowed := true, recurses := true, named := ["internal/bytealg.MaxLen"], plainKeys := false, apart := false }
def FnExactSureStripSaid : Prop := fnExactSureStripRow.holds Try.pinned (OpenSpec.ofChange fnExactSureStripSpec)

/-- ITS FALSE NEIGHBOUR: 'it returns false'. Refute it at one input. -/
def fnExactSureStripWrong : ChangeSpec := { name := "fnExactSureStrip", fn := fun _ => fun
  | [d] => { results := [.lit (.bool false)], args := [d] }
  | _ => none }
def FnExactSureStripWrongFalsely : Prop := fnExactSureStripRow.holds Try.pinned (OpenSpec.ofChange fnExactSureStripWrong)

/-- 'laws.FnExactLongestFree': WHATEVER THE INPUT: true; the input reads as it did. -/
def fnExactLongestFreeSpec : ChangeSpec := { name := "fnExactLongestFree", fn := fun _ => fun
  | [d] => { results := [.lit (.bool true)], args := [d] }
  | _ => none }
def fnExactLongestFreeRow : OpenClaim := { program := "ytemedmkealegcab", sum := "70418db9a712518b6aa617a3808151fba743534bb981a426a3c4bfc2c2b32406", func := "loop.example/g01294/laws.FnExactLongestFree", spec := "fnExactLongestFree", inPlace := ["internal/bytealg.IndexByteString", "internal/bytealg.IndexString", "internal/abi.NoEscape", "internal/bytealg.MakeNoZero"], unfollowed := true, recurses := true, named := ["internal/bytealg.MaxLen"], plainKeys := false, apart := false }
def FnExactLongestFreeSaid : Prop := fnExactLongestFreeRow.holds Try.pinned (OpenSpec.ofChange fnExactLongestFreeSpec)

/-- ITS FALSE NEIGHBOUR: 'it returns false'. Refute it at one input. -/
def fnExactLongestFreeWrong : ChangeSpec := { name := "fnExactLongestFree", fn := fun _ => fun
  | [d] => { results := [.lit (.bool false)], args := [d] }
  | _ => none }
def FnExactLongestFreeWrongFalsely : Prop := fnExactLongestFreeRow.holds Try.pinned (OpenSpec.ofChange fnExactLongestFreeWrong)

/-- 'laws.FnExactCountLists': WHATEVER THE INPUT: true; the input reads as it did. -/
def fnExactCountListsSpec : ChangeSpec := { name := "fnExactCountLists", fn := fun _ => fun
  | [d] => { results := [.lit (.bool true)], args := [d] }
  | _ => none }
def fnExactCountListsRow : OpenClaim := { program := "ytemedmkealegcab", sum := "70418db9a712518b6aa617a3808151fba743534bb981a426a3c4bfc2c2b32406", func := "loop.example/g01294/laws.FnExactCountLists", spec := "fnExactCountLists", plainKeys := false, apart := false }
def FnExactCountListsSaid : Prop := fnExactCountListsRow.holds Try.pinned (OpenSpec.ofChange fnExactCountListsSpec)

/-- ITS FALSE NEIGHBOUR: 'it returns false'. Refute it at one input. -/
def fnExactCountListsWrong : ChangeSpec := { name := "fnExactCountLists", fn := fun _ => fun
  | [d] => { results := [.lit (.bool false)], args := [d] }
  | _ => none }
def FnExactCountListsWrongFalsely : Prop := fnExactCountListsRow.holds Try.pinned (OpenSpec.ofChange fnExactCountListsWrong)

/-- 'laws.FnExactCountToldBoards': WHATEVER THE INPUT: true; the input reads as it did. -/
def fnExactCountToldBoardsSpec : ChangeSpec := { name := "fnExactCountToldBoards", fn := fun _ => fun
  | [d1, d2] => { results := [.lit (.bool true)], args := [d1, d2] }
  | _ => none }
def fnExactCountToldBoardsRow : OpenClaim := { program := "ytemedmkealegcab", sum := "70418db9a712518b6aa617a3808151fba743534bb981a426a3c4bfc2c2b32406", func := "loop.example/g01294/laws.FnExactCountToldBoards", spec := "fnExactCountToldBoards", recurses := true, plainKeys := false, apart := false }
def FnExactCountToldBoardsSaid : Prop := fnExactCountToldBoardsRow.holds Try.pinned (OpenSpec.ofChange fnExactCountToldBoardsSpec)

/-- ITS FALSE NEIGHBOUR: 'it returns false'. Refute it at one input. -/
def fnExactCountToldBoardsWrong : ChangeSpec := { name := "fnExactCountToldBoards", fn := fun _ => fun
  | [d1, d2] => { results := [.lit (.bool false)], args := [d1, d2] }
  | _ => none }
def FnExactCountToldBoardsWrongFalsely : Prop := fnExactCountToldBoardsRow.holds Try.pinned (OpenSpec.ofChange fnExactCountToldBoardsWrong)

/-- 'laws.FnExactCountBoards': WHATEVER THE INPUT: true; the input reads as it did. -/
def fnExactCountBoardsSpec : ChangeSpec := { name := "fnExactCountBoards", fn := fun _ => fun
  | [d1, d2, d3] => { results := [.lit (.bool true)], args := [d1, d2, d3] }
  | _ => none }
def fnExactCountBoardsRow : OpenClaim := { program := "ytemedmkealegcab", sum := "70418db9a712518b6aa617a3808151fba743534bb981a426a3c4bfc2c2b32406", func := "loop.example/g01294/laws.FnExactCountBoards", spec := "fnExactCountBoards", unfollowed := true, recurses := true, plainKeys := false, apart := false }
def FnExactCountBoardsSaid : Prop := fnExactCountBoardsRow.holds Try.pinned (OpenSpec.ofChange fnExactCountBoardsSpec)

/-- ITS FALSE NEIGHBOUR: 'it returns false'. Refute it at one input. -/
def fnExactCountBoardsWrong : ChangeSpec := { name := "fnExactCountBoards", fn := fun _ => fun
  | [d1, d2, d3] => { results := [.lit (.bool false)], args := [d1, d2, d3] }
  | _ => none }
def FnExactCountBoardsWrongFalsely : Prop := fnExactCountBoardsRow.holds Try.pinned (OpenSpec.ofChange fnExactCountBoardsWrong)

/- THE SECOND FORM. 'bulk': how many values and letters a reading holds, each counted each time it is reached (what is shared counts as often as it is met; a slice's spare places count too). A statement '..UptoSaid' is the law's where the arguments, and the package variables that the reading takes, are together of bulk at most 1048576: NARROWER than '..Said'. Prove '..Said' where nothing that the law and all that it calls make is longer than what came in: it says more and counts as full. Else prove '..UptoSaid'. A law counts once. -/
mutual
def uptoBulk {H : Type} : DataW H → Nat
  | .lit (.string bytes) => bytes.length + 1
  | .lit _ => 1
  | .nil => 1
  | .ptr d => uptoBulk d + 1
  | .slice elems spare => uptoBulkAll elems + uptoBulkAll spare + 1
  | .agg parts => uptoBulkAll parts + 1
  | .iface _ d => uptoBulk d + 1
  | .map entries => uptoBulkEntries entries + 1
  | .held _ => 1
def uptoBulkAll {H : Type} : List (DataW H) → Nat
  | [] => 0
  | d :: r => uptoBulk d + uptoBulkAll r
def uptoBulkEntries {H : Type} : List (Lit × DataW H) → Nat
  | [] => 0
  | x :: r => uptoBulkEntry x + uptoBulkEntries r
def uptoBulkEntry {H : Type} : Lit × DataW H → Nat
  | (.string bytes, d) => bytes.length + uptoBulk d + 1
  | (_, d) => uptoBulk d + 1
 end
def uptoSmall : (H : Type) → List (DataW H) → Bool := fun _ ds => decide (uptoBulkAll ds ≤ 1048576)
def OpenSpec.upto (s : _root_.Go.ChangeSpec) : _root_.Go.OpenSpec := { _root_.Go.OpenSpec.ofChange s with cond := some uptoSmall }

/-- 'laws.FnExactFirstStrip', WHERE WHAT IT READS IS OF BULK AT MOST 1048576: true; the input reads as it did. -/
def fnExactFirstStripUptoRow : OpenClaim := { program := "ytemedmkealegcab", sum := "70418db9a712518b6aa617a3808151fba743534bb981a426a3c4bfc2c2b32406", func := "loop.example/g01294/laws.FnExactFirstStrip", spec := "fnExactFirstStrip", inPlace := ["internal/bytealg.IndexByteString", "internal/bytealg.IndexString"], unfollowed := true, recurses := true, named := ["internal/bytealg.MaxLen"], plainKeys := false, apart := false, narrowed := true }
def FnExactFirstStripUptoSaid : Prop := fnExactFirstStripUptoRow.holds Try.pinned (OpenSpec.upto fnExactFirstStripSpec)

/-- 'laws.FnExactLastStrip', WHERE WHAT IT READS IS OF BULK AT MOST 1048576: true; the input reads as it did. -/
def fnExactLastStripUptoRow : OpenClaim := { program := "ytemedmkealegcab", sum := "70418db9a712518b6aa617a3808151fba743534bb981a426a3c4bfc2c2b32406", func := "loop.example/g01294/laws.FnExactLastStrip", spec := "fnExactLastStrip", inPlace := ["internal/bytealg.IndexByteString", "internal/bytealg.IndexString"], unfollowed := true, recurses := true, named := ["internal/bytealg.MaxLen"], plainKeys := false, apart := false, narrowed := true }
def FnExactLastStripUptoSaid : Prop := fnExactLastStripUptoRow.holds Try.pinned (OpenSpec.upto fnExactLastStripSpec)

/-- 'laws.FnExactStripOfRank', WHERE WHAT IT READS IS OF BULK AT MOST 1048576: true; the input reads as it did. -/
def fnExactStripOfRankUptoRow : OpenClaim := { program := "ytemedmkealegcab", sum := "70418db9a712518b6aa617a3808151fba743534bb981a426a3c4bfc2c2b32406", func := "loop.example/g01294/laws.FnExactStripOfRank", spec := "fnExactStripOfRank", inPlace := ["internal/bytealg.IndexByteString", "internal/bytealg.IndexString"], unfollowed := true, recurses := true, named := ["internal/bytealg.MaxLen"], plainKeys := false, apart := false, narrowed := true }
def FnExactStripOfRankUptoSaid : Prop := fnExactStripOfRankUptoRow.holds Try.pinned (OpenSpec.upto fnExactStripOfRankSpec)

/-- 'laws.FnExactRankOfStrip', WHERE WHAT IT READS IS OF BULK AT MOST 1048576: true; the input reads as it did. -/
def fnExactRankOfStripUptoRow : OpenClaim := { program := "ytemedmkealegcab", sum := "70418db9a712518b6aa617a3808151fba743534bb981a426a3c4bfc2c2b32406", func := "loop.example/g01294/laws.FnExactRankOfStrip", spec := "fnExactRankOfStrip", inPlace := ["internal/bytealg.IndexByteString", "internal/bytealg.IndexString", "internal/abi.NoEscape", "internal/bytealg.MakeNoZero"], unfollowed := true, recurses := true, named := ["internal/bytealg.MaxLen"], plainKeys := false, apart := false, narrowed := true }
def FnExactRankOfStripUptoSaid : Prop := fnExactRankOfStripUptoRow.holds Try.pinned (OpenSpec.upto fnExactRankOfStripSpec)

/-- 'laws.FnExactSureStrip', WHERE WHAT IT READS IS OF BULK AT MOST 1048576: true; the input reads as it did. -/
def fnExactSureStripUptoRow : OpenClaim := { program := "ytemedmkealegcab", sum := "70418db9a712518b6aa617a3808151fba743534bb981a426a3c4bfc2c2b32406", func := "loop.example/g01294/laws.FnExactSureStrip", spec := "fnExactSureStrip", inPlace := ["internal/bytealg.IndexByteString", "internal/bytealg.IndexString", "internal/abi.NoEscape", "internal/bytealg.MakeNoZero"], unfollowed := true, recurses := true, named := ["internal/bytealg.MaxLen"], plainKeys := false, apart := false, narrowed := true }
def FnExactSureStripUptoSaid : Prop := fnExactSureStripUptoRow.holds Try.pinned (OpenSpec.upto fnExactSureStripSpec)

/-- 'laws.FnExactLongestFree', WHERE WHAT IT READS IS OF BULK AT MOST 1048576: true; the input reads as it did. -/
def fnExactLongestFreeUptoRow : OpenClaim := { program := "ytemedmkealegcab", sum := "70418db9a712518b6aa617a3808151fba743534bb981a426a3c4bfc2c2b32406", func := "loop.example/g01294/laws.FnExactLongestFree", spec := "fnExactLongestFree", inPlace := ["internal/bytealg.IndexByteString", "internal/bytealg.IndexString", "internal/abi.NoEscape", "internal/bytealg.MakeNoZero"], unfollowed := true, recurses := true, named := ["internal/bytealg.MaxLen"], plainKeys := false, apart := false, narrowed := true }
def FnExactLongestFreeUptoSaid : Prop := fnExactLongestFreeUptoRow.holds Try.pinned (OpenSpec.upto fnExactLongestFreeSpec)

/-- 'laws.FnExactCountLists', WHERE WHAT IT READS IS OF BULK AT MOST 1048576: true; the input reads as it did. -/
def fnExactCountListsUptoRow : OpenClaim := { program := "ytemedmkealegcab", sum := "70418db9a712518b6aa617a3808151fba743534bb981a426a3c4bfc2c2b32406", func := "loop.example/g01294/laws.FnExactCountLists", spec := "fnExactCountLists", plainKeys := false, apart := false, narrowed := true }
def FnExactCountListsUptoSaid : Prop := fnExactCountListsUptoRow.holds Try.pinned (OpenSpec.upto fnExactCountListsSpec)

/-- 'laws.FnExactCountToldBoards', WHERE WHAT IT READS IS OF BULK AT MOST 1048576: true; the input reads as it did. -/
def fnExactCountToldBoardsUptoRow : OpenClaim := { program := "ytemedmkealegcab", sum := "70418db9a712518b6aa617a3808151fba743534bb981a426a3c4bfc2c2b32406", func := "loop.example/g01294/laws.FnExactCountToldBoards", spec := "fnExactCountToldBoards", recurses := true, plainKeys := false, apart := false, narrowed := true }
def FnExactCountToldBoardsUptoSaid : Prop := fnExactCountToldBoardsUptoRow.holds Try.pinned (OpenSpec.upto fnExactCountToldBoardsSpec)

/-- 'laws.FnExactCountBoards', WHERE WHAT IT READS IS OF BULK AT MOST 1048576: true; the input reads as it did. -/
def fnExactCountBoardsUptoRow : OpenClaim := { program := "ytemedmkealegcab", sum := "70418db9a712518b6aa617a3808151fba743534bb981a426a3c4bfc2c2b32406", func := "loop.example/g01294/laws.FnExactCountBoards", spec := "fnExactCountBoards", unfollowed := true, recurses := true, plainKeys := false, apart := false, narrowed := true }
def FnExactCountBoardsUptoSaid : Prop := fnExactCountBoardsUptoRow.holds Try.pinned (OpenSpec.upto fnExactCountBoardsSpec)

end Rows
end Go.Proofs.Ytemedmkealegcab
