/- Puzzles by the program: a clue less; DropClue by both sides. -/
import Derived.Test.YthlbplmghjaeoaaDoorA7
import Derived.Test.YthlbplmghjaeoaaDoorA8
import Derived.Test.YthlbplmghjaeoaaDoorAA
import Derived.Laws.ResultCell
import Derived.Outline
namespace Go.Proofs.YthlbplmghjaeoaaDoor
open Go.RowKit


/-- Two results: a variable's cells, and a value. -/
theorem res_pair {P : Program} {fn : Func} {p u : Tmp} {ty : TypeId} (h : fn.results = #[.cell p ty, .tmp u]) (tmps : Array Value) (w : World) (g : Nat) (t : TypeId) (cs : Array Value) (fr : Nat × Nat) (d : TypeDesc) (b : Value)
    (hp : tmps.getD p undef = .pointer (some ⟨g, 0, none⟩)) (hg : w.heap[g]? = some (.cells cs t fr)) (hu : P.underlying ty = some d) (hd : (match d with | .struct _ | .array _ _ => true | _ => false) = true) (hi : (P.info? ty).map (·.size) = some cs.size)
    (hb : tmps.getD u undef = b) : (results fn tmps).run P w = .ok (.tuple #[.agg cs, b]) w := by
  rw [results_cell_tmp h, hp, hb]
  simp [asAddr, Result.andThen, run_loadVar_row w g t ty cs fr d hg hu hd hi]
/-- Is there a puzzle, and a clue with an index? -/
def dropB (x y : Int) (cs : List Clu) (k : Int) : Bool := pzB x y cs && inB k 0 ((cs.length : Int) - 1)
end Go.Proofs.YthlbplmghjaeoaaDoor
