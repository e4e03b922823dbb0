/-
  No cell of these rows narrows 'for every input' (looked for: loops, veiled, ifaces, maps, wideKeys, modest, calm, conditions, laid).
  DERIVED. THE GIVEN ROWS OF THIS SEAT. 9 by the template 'for every input the law returns true; each argument reads behind the call as it read before'; 0 by the template 'total and deterministic' (their statements: YtemedmkealegcaaTotals.lean).
  GIVEN WITH THE SEED: the statements are not yours to turn. If you find one false, say at which input.
  Laid BY PROGRAM, IN A SANDBOX (cutbox-rows.mjs): the forced cells as the released guide's own fill.sh prints them over the translation 1ecd6917aa1ca0cb… (all of the seat's roots in one cut). By AI agents, Wed Nov 11 2026. No macro, syntax, notation, axiom, sorry.
-/
import Derived.Test.YtemedmkealegcaaChecked
import GoSem.Claim
import GoSem.ClaimJoined
import GoSem.ClaimMapViews
import Derived.JoinedTies
import Derived.KernelRfl
namespace Go.Proofs.Ytemedmkealegcaa
/- THE CELL 'sum', in the pinned program and in every row, IS THE sha256 OF THE DUMP (.gsa) THAT YtemedmkealegcaaProg.lean LOADS. Nothing in Lean hashes anything: it is a label: what it is worth is what the hold of that sum in a sandbox is worth. -/
noncomputable def Try.pinned : Pinned := { name := "ytemedmkealegcaa", sum := "1ecd6917aa1ca0cb07dfdfd1b297ec96f9db7965939a92e76b06f045cf407d0d", checked := Try.checked }
namespace Rows
def none {H : Type} : Left H := { results := [], args := [] }

/-- 'laws.FnExactIsStrip': WHATEVER THE INPUT: true; the input reads as it did. -/
def fnExactIsStripSpec : ChangeSpec := { name := "fnExactIsStrip", fn := fun _ => fun
  | [d] => { results := [.lit (.bool true)], args := [d] }
  | _ => none }
def fnExactIsStripRow : OpenClaim := { program := "ytemedmkealegcaa", sum := "1ecd6917aa1ca0cb07dfdfd1b297ec96f9db7965939a92e76b06f045cf407d0d", func := "loop.example/g01294/laws.FnExactIsStrip", spec := "fnExactIsStrip", inPlace := ["internal/bytealg.IndexByteString", "internal/bytealg.IndexString"], named := ["internal/bytealg.MaxLen"], plainKeys := false, apart := false }
def FnExactIsStripSaid : Prop := fnExactIsStripRow.holds Try.pinned (OpenSpec.ofChange fnExactIsStripSpec)

/-- ITS FALSE NEIGHBOUR: 'it returns false'. Refute it at one input. -/
def fnExactIsStripWrong : ChangeSpec := { name := "fnExactIsStrip", fn := fun _ => fun
  | [d] => { results := [.lit (.bool false)], args := [d] }
  | _ => none }
def FnExactIsStripWrongFalsely : Prop := fnExactIsStripRow.holds Try.pinned (OpenSpec.ofChange fnExactIsStripWrong)

/-- 'laws.FnExactBackStrip': WHATEVER THE INPUT: true; the input reads as it did. -/
def fnExactBackStripSpec : ChangeSpec := { name := "fnExactBackStrip", fn := fun _ => fun
  | [d] => { results := [.lit (.bool true)], args := [d] }
  | _ => none }
def fnExactBackStripRow : OpenClaim := { program := "ytemedmkealegcaa", sum := "1ecd6917aa1ca0cb07dfdfd1b297ec96f9db7965939a92e76b06f045cf407d0d", func := "loop.example/g01294/laws.FnExactBackStrip", spec := "fnExactBackStrip", inPlace := ["internal/bytealg.IndexByteString", "internal/bytealg.IndexString"], named := ["internal/bytealg.MaxLen"], plainKeys := false, apart := false }
def FnExactBackStripSaid : Prop := fnExactBackStripRow.holds Try.pinned (OpenSpec.ofChange fnExactBackStripSpec)

/-- ITS FALSE NEIGHBOUR: 'it returns false'. Refute it at one input. -/
def fnExactBackStripWrong : ChangeSpec := { name := "fnExactBackStrip", fn := fun _ => fun
  | [d] => { results := [.lit (.bool false)], args := [d] }
  | _ => none }
def FnExactBackStripWrongFalsely : Prop := fnExactBackStripRow.holds Try.pinned (OpenSpec.ofChange fnExactBackStripWrong)

/-- 'laws.FnExactDoesFitStrip': WHATEVER THE INPUT: true; the input reads as it did. -/
def fnExactDoesFitStripSpec : ChangeSpec := { name := "fnExactDoesFitStrip", fn := fun _ => fun
  | [d1, d2] => { results := [.lit (.bool true)], args := [d1, d2] }
  | _ => none }
def fnExactDoesFitStripRow : OpenClaim := { program := "ytemedmkealegcaa", sum := "1ecd6917aa1ca0cb07dfdfd1b297ec96f9db7965939a92e76b06f045cf407d0d", func := "loop.example/g01294/laws.FnExactDoesFitStrip", spec := "fnExactDoesFitStrip", inPlace := ["internal/bytealg.IndexByteString", "internal/bytealg.IndexString", "internal/abi.NoEscape", "internal/bytealg.MakeNoZero"], unfollowed := true, recurses := true, named := ["internal/bytealg.MaxLen"], plainKeys := false, apart := false }
def FnExactDoesFitStripSaid : Prop := fnExactDoesFitStripRow.holds Try.pinned (OpenSpec.ofChange fnExactDoesFitStripSpec)

/-- ITS FALSE NEIGHBOUR: 'it returns false'. Refute it at one input. -/
def fnExactDoesFitStripWrong : ChangeSpec := { name := "fnExactDoesFitStrip", fn := fun _ => fun
  | [d1, d2] => { results := [.lit (.bool false)], args := [d1, d2] }
  | _ => none }
def FnExactDoesFitStripWrongFalsely : Prop := fnExactDoesFitStripRow.holds Try.pinned (OpenSpec.ofChange fnExactDoesFitStripWrong)

/-- 'laws.FnExactHideStrip': WHATEVER THE INPUT: true; the input reads as it did. -/
def fnExactHideStripSpec : ChangeSpec := { name := "fnExactHideStrip", fn := fun _ => fun
  | [d1, d2] => { results := [.lit (.bool true)], args := [d1, d2] }
  | _ => none }
def fnExactHideStripRow : OpenClaim := { program := "ytemedmkealegcaa", sum := "1ecd6917aa1ca0cb07dfdfd1b297ec96f9db7965939a92e76b06f045cf407d0d", func := "loop.example/g01294/laws.FnExactHideStrip", spec := "fnExactHideStrip", inPlace := ["internal/bytealg.IndexByteString", "internal/bytealg.IndexString", "internal/abi.NoEscape", "internal/bytealg.MakeNoZero"], unfollowed := true, recurses := true, named := ["internal/bytealg.MaxLen"], plainKeys := false, apart := false }
def FnExactHideStripSaid : Prop := fnExactHideStripRow.holds Try.pinned (OpenSpec.ofChange fnExactHideStripSpec)

/-- ITS FALSE NEIGHBOUR: 'it returns false'. Refute it at one input. -/
def fnExactHideStripWrong : ChangeSpec := { name := "fnExactHideStrip", fn := fun _ => fun
  | [d1, d2] => { results := [.lit (.bool false)], args := [d1, d2] }
  | _ => none }
def FnExactHideStripWrongFalsely : Prop := fnExactHideStripRow.holds Try.pinned (OpenSpec.ofChange fnExactHideStripWrong)

/-- 'laws.FnExactCountStripSums': WHATEVER THE INPUT: true; the input reads as it did. -/
def fnExactCountStripSumsSpec : ChangeSpec := { name := "fnExactCountStripSums", fn := fun _ => fun
  | [d1, d2] => { results := [.lit (.bool true)], args := [d1, d2] }
  | _ => none }
def fnExactCountStripSumsRow : OpenClaim := { program := "ytemedmkealegcaa", sum := "1ecd6917aa1ca0cb07dfdfd1b297ec96f9db7965939a92e76b06f045cf407d0d", func := "loop.example/g01294/laws.FnExactCountStripSums", spec := "fnExactCountStripSums", unfollowed := true, recurses := true, plainKeys := false, apart := false }
def FnExactCountStripSumsSaid : Prop := fnExactCountStripSumsRow.holds Try.pinned (OpenSpec.ofChange fnExactCountStripSumsSpec)

/-- ITS FALSE NEIGHBOUR: 'it returns false'. Refute it at one input. -/
def fnExactCountStripSumsWrong : ChangeSpec := { name := "fnExactCountStripSums", fn := fun _ => fun
  | [d1, d2] => { results := [.lit (.bool false)], args := [d1, d2] }
  | _ => none }
def FnExactCountStripSumsWrongFalsely : Prop := fnExactCountStripSumsRow.holds Try.pinned (OpenSpec.ofChange fnExactCountStripSumsWrong)

/-- 'laws.FnExactCountStrip': WHATEVER THE INPUT: true; the input reads as it did. -/
def fnExactCountStripSpec : ChangeSpec := { name := "fnExactCountStrip", fn := fun _ => fun
  | [d] => { results := [.lit (.bool true)], args := [d] }
  | _ => none }
def fnExactCountStripRow : OpenClaim := { program := "ytemedmkealegcaa", sum := "1ecd6917aa1ca0cb07dfdfd1b297ec96f9db7965939a92e76b06f045cf407d0d", func := "loop.example/g01294/laws.FnExactCountStrip", spec := "fnExactCountStrip", inPlace := ["internal/bytealg.IndexByteString", "internal/bytealg.IndexString"], unfollowed := true, recurses := true, named := ["internal/bytealg.MaxLen"], plainKeys := false, apart := false }
def FnExactCountStripSaid : Prop := fnExactCountStripRow.holds Try.pinned (OpenSpec.ofChange fnExactCountStripSpec)

/-- ITS FALSE NEIGHBOUR: 'it returns false'. Refute it at one input. -/
def fnExactCountStripWrong : ChangeSpec := { name := "fnExactCountStrip", fn := fun _ => fun
  | [d] => { results := [.lit (.bool false)], args := [d] }
  | _ => none }
def FnExactCountStripWrongFalsely : Prop := fnExactCountStripRow.holds Try.pinned (OpenSpec.ofChange fnExactCountStripWrong)

/-- 'laws.FnExactCountStripMines': WHATEVER THE INPUT: true; the input reads as it did. -/
def fnExactCountStripMinesSpec : ChangeSpec := { name := "fnExactCountStripMines", fn := fun _ => fun
  | [d1, d2] => { results := [.lit (.bool true)], args := [d1, d2] }
  | _ => none }
def fnExactCountStripMinesRow : OpenClaim := { program := "ytemedmkealegcaa", sum := "1ecd6917aa1ca0cb07dfdfd1b297ec96f9db7965939a92e76b06f045cf407d0d", func := "loop.example/g01294/laws.FnExactCountStripMines", spec := "fnExactCountStripMines", inPlace := ["internal/bytealg.IndexByteString", "internal/bytealg.IndexString"], unfollowed := true, recurses := true, named := ["internal/bytealg.MaxLen"], plainKeys := false, apart := false }
def FnExactCountStripMinesSaid : Prop := fnExactCountStripMinesRow.holds Try.pinned (OpenSpec.ofChange fnExactCountStripMinesSpec)

/-- ITS FALSE NEIGHBOUR: 'it returns false'. Refute it at one input. -/
def fnExactCountStripMinesWrong : ChangeSpec := { name := "fnExactCountStripMines", fn := fun _ => fun
  | [d1, d2] => { results := [.lit (.bool false)], args := [d1, d2] }
  | _ => none }
def FnExactCountStripMinesWrongFalsely : Prop := fnExactCountStripMinesRow.holds Try.pinned (OpenSpec.ofChange fnExactCountStripMinesWrong)

/-- 'laws.FnExactCountStripAt': WHATEVER THE INPUT: true; the input reads as it did. -/
def fnExactCountStripAtSpec : ChangeSpec := { name := "fnExactCountStripAt", fn := fun _ => fun
  | [d1, d2] => { results := [.lit (.bool true)], args := [d1, d2] }
  | _ => none }
def fnExactCountStripAtRow : OpenClaim := { program := "ytemedmkealegcaa", sum := "1ecd6917aa1ca0cb07dfdfd1b297ec96f9db7965939a92e76b06f045cf407d0d", func := "loop.example/g01294/laws.FnExactCountStripAt", spec := "fnExactCountStripAt", inPlace := ["internal/bytealg.IndexByteString", "internal/bytealg.IndexString", "internal/abi.NoEscape", "internal/bytealg.MakeNoZero"], unfollowed := true, recurses := true, named := ["internal/bytealg.MaxLen"], plainKeys := false, apart := false }
def FnExactCountStripAtSaid : Prop := fnExactCountStripAtRow.holds Try.pinned (OpenSpec.ofChange fnExactCountStripAtSpec)

/-- ITS FALSE NEIGHBOUR: 'it returns false'. Refute it at one input. -/
def fnExactCountStripAtWrong : ChangeSpec := { name := "fnExactCountStripAt", fn := fun _ => fun
  | [d1, d2] => { results := [.lit (.bool false)], args := [d1, d2] }
  | _ => none }
def FnExactCountStripAtWrongFalsely : Prop := fnExactCountStripAtRow.holds Try.pinned (OpenSpec.ofChange fnExactCountStripAtWrong)

/-- 'laws.FnExactStripByMines': WHATEVER THE INPUT: true; the input reads as it did. -/
def fnExactStripByMinesSpec : ChangeSpec := { name := "fnExactStripByMines", fn := fun _ => fun
  | [d] => { results := [.lit (.bool true)], args := [d] }
  | _ => none }
def fnExactStripByMinesRow : OpenClaim := { program := "ytemedmkealegcaa", sum := "1ecd6917aa1ca0cb07dfdfd1b297ec96f9db7965939a92e76b06f045cf407d0d", func := "loop.example/g01294/laws.FnExactStripByMines", spec := "fnExactStripByMines", inPlace := ["internal/bytealg.IndexByteString", "internal/bytealg.IndexString"], unfollowed := true, recurses := true, named := ["internal/bytealg.MaxLen"], plainKeys := false, apart := false }
def FnExactStripByMinesSaid : Prop := fnExactStripByMinesRow.holds Try.pinned (OpenSpec.ofChange fnExactStripByMinesSpec)

/-- ITS FALSE NEIGHBOUR: 'it returns false'. Refute it at one input. -/
def fnExactStripByMinesWrong : ChangeSpec := { name := "fnExactStripByMines", fn := fun _ => fun
  | [d] => { results := [.lit (.bool false)], args := [d] }
  | _ => none }
def FnExactStripByMinesWrongFalsely : Prop := fnExactStripByMinesRow.holds Try.pinned (OpenSpec.ofChange fnExactStripByMinesWrong)

/- THE SECOND FORM. 'bulk': how many values and letters a reading holds, each counted each time it is reached (what is shared counts as often as it is met; a slice's spare places count too). A statement '..UptoSaid' is the law's where the arguments, and the package variables that the reading takes, are together of bulk at most 1048576: NARROWER than '..Said'. Prove '..Said' where nothing that the law and all that it calls make is longer than what came in: it says more and counts as full. Else prove '..UptoSaid'. A law counts once. -/
mutual
def uptoBulk {H : Type} : DataW H → Nat
  | .lit (.string bytes) => bytes.length + 1
  | .lit _ => 1
  | .nil => 1
  | .ptr d => uptoBulk d + 1
  | .slice elems spare => uptoBulkAll elems + uptoBulkAll spare + 1
  | .agg parts => uptoBulkAll parts + 1
  | .iface _ d => uptoBulk d + 1
  | .map entries => uptoBulkEntries entries + 1
  | .held _ => 1
def uptoBulkAll {H : Type} : List (DataW H) → Nat
  | [] => 0
  | d :: r => uptoBulk d + uptoBulkAll r
def uptoBulkEntries {H : Type} : List (Lit × DataW H) → Nat
  | [] => 0
  | x :: r => uptoBulkEntry x + uptoBulkEntries r
def uptoBulkEntry {H : Type} : Lit × DataW H → Nat
  | (.string bytes, d) => bytes.length + uptoBulk d + 1
  | (_, d) => uptoBulk d + 1
 end
def uptoSmall : (H : Type) → List (DataW H) → Bool := fun _ ds => decide (uptoBulkAll ds ≤ 1048576)
def OpenSpec.upto (s : _root_.Go.ChangeSpec) : _root_.Go.OpenSpec := { _root_.Go.OpenSpec.ofChange s with cond := some uptoSmall }

/-- 'laws.FnExactIsStrip', WHERE WHAT IT READS IS OF BULK AT MOST 1048576: true; the input reads as it did. -/
def fnExactIsStripUptoRow : OpenClaim := { program := "ytemedmkealegcaa", sum := "1ecd6917aa1ca0cb07dfdfd1b297ec96f9db7965939a92e76b06f045cf407d0d", func := "loop.example/g01294/laws.FnExactIsStrip", spec := "fnExactIsStrip", inPlace := ["internal/bytealg.IndexByteString", "internal/bytealg.IndexString"], named := ["internal/bytealg.MaxLen"], plainKeys := false, apart := false, narrowed := true }
def FnExactIsStripUptoSaid : Prop := fnExactIsStripUptoRow.holds Try.pinned (OpenSpec.upto fnExactIsStripSpec)

/-- 'laws.FnExactBackStrip', WHERE WHAT IT READS IS OF BULK AT MOST 1048576: true; the input reads as it did. -/
def fnExactBackStripUptoRow : OpenClaim := { program := "ytemedmkealegcaa", sum := "1ecd6917aa1ca0cb07dfdfd1b297ec96f9db7965939a92e76b06f045cf407d0d", func := "loop.example/g01294/laws.FnExactBackStrip", spec := "fnExactBackStrip", inPlace := ["internal/bytealg.IndexByteString", "internal/bytealg.IndexString"], named := ["internal/bytealg.MaxLen"], plainKeys := false, apart := false, narrowed := true }
def FnExactBackStripUptoSaid : Prop := fnExactBackStripUptoRow.holds Try.pinned (OpenSpec.upto fnExactBackStripSpec)

/-- 'laws.FnExactDoesFitStrip', WHERE WHAT IT READS IS OF BULK AT MOST 1048576: true; the input reads as it did. -/
def fnExactDoesFitStripUptoRow : OpenClaim := { program := "ytemedmkealegcaa", sum := "1ecd6917aa1ca0cb07dfdfd1b297ec96f9db7965939a92e76b06f045cf407d0d", func := "loop.example/g01294/laws.FnExactDoesFitStrip", spec := "fnExactDoesFitStrip", inPlace := ["internal/bytealg.IndexByteString", "internal/bytealg.IndexString", "internal/abi.NoEscape", "internal/bytealg.MakeNoZero"], unfollowed := true, recurses := true, named := ["internal/bytealg.MaxLen"], plainKeys := false, apart := false, narrowed := true }
def FnExactDoesFitStripUptoSaid : Prop := fnExactDoesFitStripUptoRow.holds Try.pinned (OpenSpec.upto fnExactDoesFitStripSpec)

/-- 'laws.FnExactHideStrip', WHERE WHAT IT READS IS OF BULK AT MOST 1048576: true; the input reads as it did. -/
def fnExactHideStripUptoRow : OpenClaim := { program := "ytemedmkealegcaa", sum := "1ecd6917aa1ca0cb07dfdfd1b297ec96f9db7965939a92e76b06f045cf407d0d", func := "loop.example/g01294/laws.FnExactHideStrip", spec := "fnExactHideStrip", inPlace := ["internal/bytealg.IndexByteString", "internal/bytealg.IndexString", "internal/abi.NoEscape", "internal/bytealg.MakeNoZero"], unfollowed := true, recurses := true, named := ["internal/bytealg.MaxLen"], plainKeys := false, apart := false, narrowed := true }
def FnExactHideStripUptoSaid : Prop := fnExactHideStripUptoRow.holds Try.pinned (OpenSpec.upto fnExactHideStripSpec)

/-- 'laws.FnExactCountStripSums', WHERE WHAT IT READS IS OF BULK AT MOST 1048576: true; the input reads as it did. -/
def fnExactCountStripSumsUptoRow : OpenClaim := { program := "ytemedmkealegcaa", sum := "1ecd6917aa1ca0cb07dfdfd1b297ec96f9db7965939a92e76b06f045cf407d0d", func := "loop.example/g01294/laws.FnExactCountStripSums", spec := "fnExactCountStripSums", unfollowed := true, recurses := true, plainKeys := false, apart := false, narrowed := true }
def FnExactCountStripSumsUptoSaid : Prop := fnExactCountStripSumsUptoRow.holds Try.pinned (OpenSpec.upto fnExactCountStripSumsSpec)

/-- 'laws.FnExactCountStrip', WHERE WHAT IT READS IS OF BULK AT MOST 1048576: true; the input reads as it did. -/
def fnExactCountStripUptoRow : OpenClaim := { program := "ytemedmkealegcaa", sum := "1ecd6917aa1ca0cb07dfdfd1b297ec96f9db7965939a92e76b06f045cf407d0d", func := "loop.example/g01294/laws.FnExactCountStrip", spec := "fnExactCountStrip", inPlace := ["internal/bytealg.IndexByteString", "internal/bytealg.IndexString"], unfollowed := true, recurses := true, named := ["internal/bytealg.MaxLen"], plainKeys := false, apart := false, narrowed := true }
def FnExactCountStripUptoSaid : Prop := fnExactCountStripUptoRow.holds Try.pinned (OpenSpec.upto fnExactCountStripSpec)

/-- 'laws.FnExactCountStripMines', WHERE WHAT IT READS IS OF BULK AT MOST 1048576: true; the input reads as it did. -/
def fnExactCountStripMinesUptoRow : OpenClaim := { program := "ytemedmkealegcaa", sum := "1ecd6917aa1ca0cb07dfdfd1b297ec96f9db7965939a92e76b06f045cf407d0d", func := "loop.example/g01294/laws.FnExactCountStripMines", spec := "fnExactCountStripMines", inPlace := ["internal/bytealg.IndexByteString", "internal/bytealg.IndexString"], unfollowed := true, recurses := true, named := ["internal/bytealg.MaxLen"], plainKeys := false, apart := false, narrowed := true }
def FnExactCountStripMinesUptoSaid : Prop := fnExactCountStripMinesUptoRow.holds Try.pinned (OpenSpec.upto fnExactCountStripMinesSpec)

/-- 'laws.FnExactCountStripAt', WHERE WHAT IT READS IS OF BULK AT MOST 1048576: true; the input reads as it did. -/
def fnExactCountStripAtUptoRow : OpenClaim := { program := "ytemedmkealegcaa", sum := "1ecd6917aa1ca0cb07dfdfd1b297ec96f9db7965939a92e76b06f045cf407d0d", func := "loop.example/g01294/laws.FnExactCountStripAt", spec := "fnExactCountStripAt", inPlace := ["internal/bytealg.IndexByteString", "internal/bytealg.IndexString", "internal/abi.NoEscape", "internal/bytealg.MakeNoZero"], unfollowed := true, recurses := true, named := ["internal/bytealg.MaxLen"], plainKeys := false, apart := false, narrowed := true }
def FnExactCountStripAtUptoSaid : Prop := fnExactCountStripAtUptoRow.holds Try.pinned (OpenSpec.upto fnExactCountStripAtSpec)

/-- 'laws.FnExactStripByMines', WHERE WHAT IT READS IS OF BULK AT MOST 1048576: true; the input reads as it did. -/
def fnExactStripByMinesUptoRow : OpenClaim := { program := "ytemedmkealegcaa", sum := "1ecd6917aa1ca0cb07dfdfd1b297ec96f9db7965939a92e76b06f045cf407d0d", func := "loop.example/g01294/laws.FnExactStripByMines", spec := "fnExactStripByMines", inPlace := ["internal/bytealg.IndexByteString", "internal/bytealg.IndexString"], unfollowed := true, recurses := true, named := ["internal/bytealg.MaxLen"], plainKeys := false, apart := false, narrowed := true }
def FnExactStripByMinesUptoSaid : Prop := fnExactStripByMinesUptoRow.holds Try.pinned (OpenSpec.upto fnExactStripByMinesSpec)

end Rows
end Go.Proofs.Ytemedmkealegcaa
