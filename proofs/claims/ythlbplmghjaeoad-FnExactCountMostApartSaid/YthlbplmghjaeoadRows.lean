/-
  No cell of these rows narrows 'for every input' (looked for: loops, veiled, ifaces, maps, wideKeys, modest, calm, conditions, laid).
  DERIVED. THE GIVEN ROWS OF THIS SEAT. 8 by the template 'for every input the law returns true; each argument reads behind the call as it read before'; 0 by the template 'total and deterministic' (their statements: YthlbplmghjaeoadTotals.lean).
  GIVEN WITH THE SEED: the statements are not yours to turn. If you find one false, say at which input.
  Laid BY PROGRAM, IN A SANDBOX (cutbox-rows.mjs): the forced cells as the released guide's own fill.sh prints them over the translation fd5ea61f70bef286… (all of the seat's roots in one cut). By AI agents, Wed Nov 11 2026. No macro, syntax, notation, axiom, sorry.
-/
import Derived.Test.YthlbplmghjaeoadChecked
import GoSem.Claim
import GoSem.ClaimJoined
import GoSem.ClaimMapViews
import Derived.JoinedTies
import Derived.KernelRfl
namespace Go.Proofs.Ythlbplmghjaeoad
/- THE CELL 'sum', in the pinned program and in every row, IS THE sha256 OF THE DUMP (.gsa) THAT YthlbplmghjaeoadProg.lean LOADS. Nothing in Lean hashes anything: it is a label: what it is worth is what the hold of that sum in a sandbox is worth. -/
noncomputable def Try.pinned : Pinned := { name := "ythlbplmghjaeoad", sum := "fd5ea61f70bef286c3f685d5c2e086e984cd6660423be0c144871b04ee8bc913", checked := Try.checked }
namespace Rows
def none {H : Type} : Left H := { results := [], args := [] }

/-- 'laws.FnExactCountWithSum': WHATEVER THE INPUT: true; the input reads as it did. -/
def fnExactCountWithSumSpec : ChangeSpec := { name := "fnExactCountWithSum", fn := fun _ => fun
  | [d1, d2, d3] => { results := [.lit (.bool true)], args := [d1, d2, d3] }
  | _ => none }
def fnExactCountWithSumRow : OpenClaim := { program := "ythlbplmghjaeoad", sum := "fd5ea61f70bef286c3f685d5c2e086e984cd6660423be0c144871b04ee8bc913", func := "loop.example/g01294/laws.FnExactCountWithSum", spec := "fnExactCountWithSum", unfollowed := true, recurses := true, plainKeys := false, apart := false }
def FnExactCountWithSumSaid : Prop := fnExactCountWithSumRow.holds Try.pinned (OpenSpec.ofChange fnExactCountWithSumSpec)

/-- ITS FALSE NEIGHBOUR: 'it returns false'. Refute it at one input. -/
def fnExactCountWithSumWrong : ChangeSpec := { name := "fnExactCountWithSum", fn := fun _ => fun
  | [d1, d2, d3] => { results := [.lit (.bool false)], args := [d1, d2, d3] }
  | _ => none }
def FnExactCountWithSumWrongFalsely : Prop := fnExactCountWithSumRow.holds Try.pinned (OpenSpec.ofChange fnExactCountWithSumWrong)

/-- 'laws.FnExactSumCounts': WHATEVER THE INPUT: true; the input reads as it did. -/
def fnExactSumCountsSpec : ChangeSpec := { name := "fnExactSumCounts", fn := fun _ => fun
  | [d1, d2] => { results := [.lit (.bool true)], args := [d1, d2] }
  | _ => none }
def fnExactSumCountsRow : OpenClaim := { program := "ythlbplmghjaeoad", sum := "fd5ea61f70bef286c3f685d5c2e086e984cd6660423be0c144871b04ee8bc913", func := "loop.example/g01294/laws.FnExactSumCounts", spec := "fnExactSumCounts", unfollowed := true, recurses := true, plainKeys := false, apart := false }
def FnExactSumCountsSaid : Prop := fnExactSumCountsRow.holds Try.pinned (OpenSpec.ofChange fnExactSumCountsSpec)

/-- ITS FALSE NEIGHBOUR: 'it returns false'. Refute it at one input. -/
def fnExactSumCountsWrong : ChangeSpec := { name := "fnExactSumCounts", fn := fun _ => fun
  | [d1, d2] => { results := [.lit (.bool false)], args := [d1, d2] }
  | _ => none }
def FnExactSumCountsWrongFalsely : Prop := fnExactSumCountsRow.holds Try.pinned (OpenSpec.ofChange fnExactSumCountsWrong)

/-- 'laws.FnExactMeanSum': WHATEVER THE INPUT: true; the input reads as it did. -/
def fnExactMeanSumSpec : ChangeSpec := { name := "fnExactMeanSum", fn := fun _ => fun
  | [d1, d2, d3] => { results := [.lit (.bool true)], args := [d1, d2, d3] }
  | _ => none }
def fnExactMeanSumRow : OpenClaim := { program := "ythlbplmghjaeoad", sum := "fd5ea61f70bef286c3f685d5c2e086e984cd6660423be0c144871b04ee8bc913", func := "loop.example/g01294/laws.FnExactMeanSum", spec := "fnExactMeanSum", plainKeys := false, apart := false }
def FnExactMeanSumSaid : Prop := fnExactMeanSumRow.holds Try.pinned (OpenSpec.ofChange fnExactMeanSumSpec)

/-- ITS FALSE NEIGHBOUR: 'it returns false'. Refute it at one input. -/
def fnExactMeanSumWrong : ChangeSpec := { name := "fnExactMeanSum", fn := fun _ => fun
  | [d1, d2, d3] => { results := [.lit (.bool false)], args := [d1, d2, d3] }
  | _ => none }
def FnExactMeanSumWrongFalsely : Prop := fnExactMeanSumRow.holds Try.pinned (OpenSpec.ofChange fnExactMeanSumWrong)

/-- 'laws.FnExactMeanNumber': WHATEVER THE INPUT: true; the input reads as it did. -/
def fnExactMeanNumberSpec : ChangeSpec := { name := "fnExactMeanNumber", fn := fun _ => fun
  | [d1, d2, d3, d4] => { results := [.lit (.bool true)], args := [d1, d2, d3, d4] }
  | _ => none }
def fnExactMeanNumberRow : OpenClaim := { program := "ythlbplmghjaeoad", sum := "fd5ea61f70bef286c3f685d5c2e086e984cd6660423be0c144871b04ee8bc913", func := "loop.example/g01294/laws.FnExactMeanNumber", spec := "fnExactMeanNumber", plainKeys := false, apart := false }
def FnExactMeanNumberSaid : Prop := fnExactMeanNumberRow.holds Try.pinned (OpenSpec.ofChange fnExactMeanNumberSpec)

/-- ITS FALSE NEIGHBOUR: 'it returns false'. Refute it at one input. -/
def fnExactMeanNumberWrong : ChangeSpec := { name := "fnExactMeanNumber", fn := fun _ => fun
  | [d1, d2, d3, d4] => { results := [.lit (.bool false)], args := [d1, d2, d3, d4] }
  | _ => none }
def FnExactMeanNumberWrongFalsely : Prop := fnExactMeanNumberRow.holds Try.pinned (OpenSpec.ofChange fnExactMeanNumberWrong)

/-- 'laws.FnExactGreatestSum': WHATEVER THE INPUT: true; the input reads as it did. -/
def fnExactGreatestSumSpec : ChangeSpec := { name := "fnExactGreatestSum", fn := fun _ => fun
  | [d1, d2] => { results := [.lit (.bool true)], args := [d1, d2] }
  | _ => none }
def fnExactGreatestSumRow : OpenClaim := { program := "ythlbplmghjaeoad", sum := "fd5ea61f70bef286c3f685d5c2e086e984cd6660423be0c144871b04ee8bc913", func := "loop.example/g01294/laws.FnExactGreatestSum", spec := "fnExactGreatestSum", plainKeys := false, apart := false }
def FnExactGreatestSumSaid : Prop := fnExactGreatestSumRow.holds Try.pinned (OpenSpec.ofChange fnExactGreatestSumSpec)

/-- ITS FALSE NEIGHBOUR: 'it returns false'. Refute it at one input. -/
def fnExactGreatestSumWrong : ChangeSpec := { name := "fnExactGreatestSum", fn := fun _ => fun
  | [d1, d2] => { results := [.lit (.bool false)], args := [d1, d2] }
  | _ => none }
def FnExactGreatestSumWrongFalsely : Prop := fnExactGreatestSumRow.holds Try.pinned (OpenSpec.ofChange fnExactGreatestSumWrong)

/-- 'laws.FnExactFirstGreatest': WHATEVER THE INPUT: true; the input reads as it did. -/
def fnExactFirstGreatestSpec : ChangeSpec := { name := "fnExactFirstGreatest", fn := fun _ => fun
  | [d1, d2] => { results := [.lit (.bool true)], args := [d1, d2] }
  | _ => none }
def fnExactFirstGreatestRow : OpenClaim := { program := "ythlbplmghjaeoad", sum := "fd5ea61f70bef286c3f685d5c2e086e984cd6660423be0c144871b04ee8bc913", func := "loop.example/g01294/laws.FnExactFirstGreatest", spec := "fnExactFirstGreatest", inPlace := ["internal/abi.NoEscape", "internal/bytealg.MakeNoZero"], unfollowed := true, recurses := true, plainKeys := false, apart := false }
def FnExactFirstGreatestSaid : Prop := fnExactFirstGreatestRow.holds Try.pinned (OpenSpec.ofChange fnExactFirstGreatestSpec)

/-- ITS FALSE NEIGHBOUR: 'it returns false'. Refute it at one input. -/
def fnExactFirstGreatestWrong : ChangeSpec := { name := "fnExactFirstGreatest", fn := fun _ => fun
  | [d1, d2] => { results := [.lit (.bool false)], args := [d1, d2] }
  | _ => none }
def FnExactFirstGreatestWrongFalsely : Prop := fnExactFirstGreatestRow.holds Try.pinned (OpenSpec.ofChange fnExactFirstGreatestWrong)

/-- 'laws.FnExactCountToldBoards': WHATEVER THE INPUT: true; the input reads as it did. -/
def fnExactCountToldBoardsSpec : ChangeSpec := { name := "fnExactCountToldBoards", fn := fun _ => fun
  | [d1, d2] => { results := [.lit (.bool true)], args := [d1, d2] }
  | _ => none }
def fnExactCountToldBoardsRow : OpenClaim := { program := "ythlbplmghjaeoad", sum := "fd5ea61f70bef286c3f685d5c2e086e984cd6660423be0c144871b04ee8bc913", func := "loop.example/g01294/laws.FnExactCountToldBoards", spec := "fnExactCountToldBoards", recurses := true, plainKeys := false, apart := false }
def FnExactCountToldBoardsSaid : Prop := fnExactCountToldBoardsRow.holds Try.pinned (OpenSpec.ofChange fnExactCountToldBoardsSpec)

/-- ITS FALSE NEIGHBOUR: 'it returns false'. Refute it at one input. -/
def fnExactCountToldBoardsWrong : ChangeSpec := { name := "fnExactCountToldBoards", fn := fun _ => fun
  | [d1, d2] => { results := [.lit (.bool false)], args := [d1, d2] }
  | _ => none }
def FnExactCountToldBoardsWrongFalsely : Prop := fnExactCountToldBoardsRow.holds Try.pinned (OpenSpec.ofChange fnExactCountToldBoardsWrong)

/-- 'laws.FnExactCountMostApart': WHATEVER THE INPUT: true; the input reads as it did. -/
def fnExactCountMostApartSpec : ChangeSpec := { name := "fnExactCountMostApart", fn := fun _ => fun
  | [d1, d2] => { results := [.lit (.bool true)], args := [d1, d2] }
  | _ => none }
def fnExactCountMostApartRow : OpenClaim := { program := "ythlbplmghjaeoad", sum := "fd5ea61f70bef286c3f685d5c2e086e984cd6660423be0c144871b04ee8bc913", func := "loop.example/g01294/laws.FnExactCountMostApart", spec := "fnExactCountMostApart", unfollowed := true, recurses := true, plainKeys := false, apart := false }
def FnExactCountMostApartSaid : Prop := fnExactCountMostApartRow.holds Try.pinned (OpenSpec.ofChange fnExactCountMostApartSpec)

/-- ITS FALSE NEIGHBOUR: 'it returns false'. Refute it at one input. -/
def fnExactCountMostApartWrong : ChangeSpec := { name := "fnExactCountMostApart", fn := fun _ => fun
  | [d1, d2] => { results := [.lit (.bool false)], args := [d1, d2] }
  | _ => none }
def FnExactCountMostApartWrongFalsely : Prop := fnExactCountMostApartRow.holds Try.pinned (OpenSpec.ofChange fnExactCountMostApartWrong)

/- THE SECOND FORM. 'bulk': how many values and letters a reading holds, each counted each time it is reached (what is shared counts as often as it is met; a slice's spare places count too). A statement '..UptoSaid' is the law's where the arguments, and the package variables that the reading takes, are together of bulk at most 1048576: NARROWER than '..Said'. Prove '..Said' where nothing that the law and all that it calls make is longer than what came in: it says more and counts as full. Else prove '..UptoSaid'. A law counts once. -/
mutual
def uptoBulk {H : Type} : DataW H → Nat
  | .lit (.string bytes) => bytes.length + 1
  | .lit _ => 1
  | .nil => 1
  | .ptr d => uptoBulk d + 1
  | .slice elems spare => uptoBulkAll elems + uptoBulkAll spare + 1
  | .agg parts => uptoBulkAll parts + 1
  | .iface _ d => uptoBulk d + 1
  | .map entries => uptoBulkEntries entries + 1
  | .held _ => 1
def uptoBulkAll {H : Type} : List (DataW H) → Nat
  | [] => 0
  | d :: r => uptoBulk d + uptoBulkAll r
def uptoBulkEntries {H : Type} : List (Lit × DataW H) → Nat
  | [] => 0
  | x :: r => uptoBulkEntry x + uptoBulkEntries r
def uptoBulkEntry {H : Type} : Lit × DataW H → Nat
  | (.string bytes, d) => bytes.length + uptoBulk d + 1
  | (_, d) => uptoBulk d + 1
 end
def uptoSmall : (H : Type) → List (DataW H) → Bool := fun _ ds => decide (uptoBulkAll ds ≤ 1048576)
def OpenSpec.upto (s : _root_.Go.ChangeSpec) : _root_.Go.OpenSpec := { _root_.Go.OpenSpec.ofChange s with cond := some uptoSmall }

/-- 'laws.FnExactCountWithSum', WHERE WHAT IT READS IS OF BULK AT MOST 1048576: true; the input reads as it did. -/
def fnExactCountWithSumUptoRow : OpenClaim := { program := "ythlbplmghjaeoad", sum := "fd5ea61f70bef286c3f685d5c2e086e984cd6660423be0c144871b04ee8bc913", func := "loop.example/g01294/laws.FnExactCountWithSum", spec := "fnExactCountWithSum", unfollowed := true, recurses := true, plainKeys := false, apart := false, narrowed := true }
def FnExactCountWithSumUptoSaid : Prop := fnExactCountWithSumUptoRow.holds Try.pinned (OpenSpec.upto fnExactCountWithSumSpec)

/-- 'laws.FnExactSumCounts', WHERE WHAT IT READS IS OF BULK AT MOST 1048576: true; the input reads as it did. -/
def fnExactSumCountsUptoRow : OpenClaim := { program := "ythlbplmghjaeoad", sum := "fd5ea61f70bef286c3f685d5c2e086e984cd6660423be0c144871b04ee8bc913", func := "loop.example/g01294/laws.FnExactSumCounts", spec := "fnExactSumCounts", unfollowed := true, recurses := true, plainKeys := false, apart := false, narrowed := true }
def FnExactSumCountsUptoSaid : Prop := fnExactSumCountsUptoRow.holds Try.pinned (OpenSpec.upto fnExactSumCountsSpec)

/-- 'laws.FnExactMeanSum', WHERE WHAT IT READS IS OF BULK AT MOST 1048576: true; the input reads as it did. -/
def fnExactMeanSumUptoRow : OpenClaim := { program := "ythlbplmghjaeoad", sum := "fd5ea61f70bef286c3f685d5c2e086e984cd6660423be0c144871b04ee8bc913", func := "loop.example/g01294/laws.FnExactMeanSum", spec := "fnExactMeanSum", plainKeys := false, apart := false, narrowed := true }
def FnExactMeanSumUptoSaid : Prop := fnExactMeanSumUptoRow.holds Try.pinned (OpenSpec.upto fnExactMeanSumSpec)

/-- 'laws.FnExactMeanNumber', WHERE WHAT IT READS IS OF BULK AT MOST 1048576: true; the input reads as it did. -/
def fnExactMeanNumberUptoRow : OpenClaim := { program := "ythlbplmghjaeoad", sum := "fd5ea61f70bef286c3f685d5c2e086e984cd6660423be0c144871b04ee8bc913", func := "loop.example/g01294/laws.FnExactMeanNumber", spec := "fnExactMeanNumber", plainKeys := false, apart := false, narrowed := true }
def FnExactMeanNumberUptoSaid : Prop := fnExactMeanNumberUptoRow.holds Try.pinned (OpenSpec.upto fnExactMeanNumberSpec)

/-- 'laws.FnExactGreatestSum', WHERE WHAT IT READS IS OF BULK AT MOST 1048576: true; the input reads as it did. -/
def fnExactGreatestSumUptoRow : OpenClaim := { program := "ythlbplmghjaeoad", sum := "fd5ea61f70bef286c3f685d5c2e086e984cd6660423be0c144871b04ee8bc913", func := "loop.example/g01294/laws.FnExactGreatestSum", spec := "fnExactGreatestSum", plainKeys := false, apart := false, narrowed := true }
def FnExactGreatestSumUptoSaid : Prop := fnExactGreatestSumUptoRow.holds Try.pinned (OpenSpec.upto fnExactGreatestSumSpec)

/-- 'laws.FnExactFirstGreatest', WHERE WHAT IT READS IS OF BULK AT MOST 1048576: true; the input reads as it did. -/
def fnExactFirstGreatestUptoRow : OpenClaim := { program := "ythlbplmghjaeoad", sum := "fd5ea61f70bef286c3f685d5c2e086e984cd6660423be0c144871b04ee8bc913", func := "loop.example/g01294/laws.FnExactFirstGreatest", spec := "fnExactFirstGreatest", inPlace := ["internal/abi.NoEscape", "internal/bytealg.MakeNoZero"], unfollowed := true, recurses := true, plainKeys := false, apart := false, narrowed := true }
def FnExactFirstGreatestUptoSaid : Prop := fnExactFirstGreatestUptoRow.holds Try.pinned (OpenSpec.upto fnExactFirstGreatestSpec)

/-- 'laws.FnExactCountToldBoards', WHERE WHAT IT READS IS OF BULK AT MOST 1048576: true; the input reads as it did. -/
def fnExactCountToldBoardsUptoRow : OpenClaim := { program := "ythlbplmghjaeoad", sum := "fd5ea61f70bef286c3f685d5c2e086e984cd6660423be0c144871b04ee8bc913", func := "loop.example/g01294/laws.FnExactCountToldBoards", spec := "fnExactCountToldBoards", recurses := true, plainKeys := false, apart := false, narrowed := true }
def FnExactCountToldBoardsUptoSaid : Prop := fnExactCountToldBoardsUptoRow.holds Try.pinned (OpenSpec.upto fnExactCountToldBoardsSpec)

/-- 'laws.FnExactCountMostApart', WHERE WHAT IT READS IS OF BULK AT MOST 1048576: true; the input reads as it did. -/
def fnExactCountMostApartUptoRow : OpenClaim := { program := "ythlbplmghjaeoad", sum := "fd5ea61f70bef286c3f685d5c2e086e984cd6660423be0c144871b04ee8bc913", func := "loop.example/g01294/laws.FnExactCountMostApart", spec := "fnExactCountMostApart", unfollowed := true, recurses := true, plainKeys := false, apart := false, narrowed := true }
def FnExactCountMostApartUptoSaid : Prop := fnExactCountMostApartUptoRow.holds Try.pinned (OpenSpec.upto fnExactCountMostApartSpec)

end Rows
end Go.Proofs.Ythlbplmghjaeoad
