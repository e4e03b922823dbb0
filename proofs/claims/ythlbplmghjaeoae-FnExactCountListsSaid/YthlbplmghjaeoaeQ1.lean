/- Groups of mines: a map of spots. -/
import Derived.Test.YthlbplmghjaeoaeGY1
import Derived.DeepKeys4
import Derived.Maps.RangeWalk
import Derived.Maps.OwnOps
namespace Go.Proofs.Ythlbplmghjaeoae
open Go.RowKit

/-- A spot, as a value and as a key. -/
def spV (p : Nat × Nat) : Value := .agg #[.int .i64 (p.1 : Int), .int .i64 (p.2 : Int)]
def spL (p : Nat × Nat) : Lit := .string (keyBytes [.int .i64 (p.1 : Int), .int .i64 (p.2 : Int)])
/-- A spot of small numbers. -/
def spOK (p : Nat × Nat) : Prop := p.1 < 1099511627776 ∧ p.2 < 1099511627776

theorem laidOutP : laidOutB Try.prog = true := by kernel_rfl
theorem rowSpot : (110 : TypeId) < Try.prog.types.size := of_decide_eq_true (by kernel_rfl)
set_option maxRecDepth 100000 in
theorem wideSpot : (match Try.prog.underlying 110 with | some (.array _ _) | some (.struct _) => true | _ => false) = true := by rw [Try.underlying110]
set_option maxRecDepth 100000 in
theorem keyedS : Maps.Keyed Try.prog 110 := Maps.Keyed.of_law (deep_law_laid laidOutP (m := 2) (by omega) rowSpot (by kernel_rfl) wideSpot)
theorem keyTypeSpot : Try.prog.keyType 110 = true := by kernel_rfl
theorem spotCells : Try.prog.cellsOf 110 = 2 := by kernel_rfl
set_option maxRecDepth 100000 in
theorem formedSpot (c0 c1 : Value) : (Value.agg #[c0, c1]).formed Try.prog 110 = true := by simp [Value.formed, Try.underlying110, spotCells]
set_option maxRecDepth 100000 in
theorem spL_of (p : Nat × Nat) (h : spOK p) : keyOf Try.prog 110 (spV p) = some (spL p) := by
  have w1 := keyI_wf p.1 h.1
  have w2 := keyI_wf p.2 h.2
  unfold keyI at w1 w2
  have hi : Try.prog.cellsOf 3 = 1 := by kernel_rfl
  have e : Try.prog.keyLits (Try.prog.types.size + 1) 110 [.int .i64 (p.1 : Int), .int .i64 (p.2 : Int)] = some [.int .i64 (p.1 : Int), .int .i64 (p.2 : Int)] := by
    obtain ⟨d, hd⟩ : ∃ d, Try.prog.types.size = d + 1 := ⟨_, (Nat.succ_pred_eq_of_pos (Nat.lt_of_le_of_lt (Nat.zero_le _) rowSpot)).symm⟩
    rw [hd]
    simp [Program.keyLits, Try.underlying110, Try.underlying3, spotCells, hi, w1, w2]
  unfold keyOf
  rw [Try.underlying110]
  simp only [keyTypeSpot, spV, formedSpot, Bool.and_self, if_true]
  rw [show (Value.agg #[.int .i64 (p.1 : Int), .int .i64 (p.2 : Int)]).cells.toList = [.int .i64 (p.1 : Int), .int .i64 (p.2 : Int)] from rfl, e]
  rfl
theorem spV_inj {p q : Nat × Nat} (h : spV p = spV q) : p = q := by
  simp [spV] at h
  exact Prod.ext (by omega) (by omega)
theorem spL_inj {p q : Nat × Nat} (hp : spOK p) (hq : spOK q) (h : spL p = spL q) : p = q := by
  have h1 := spL_of p hp
  have h2 := spL_of q hq
  rw [h] at h1
  exact spV_inj (keyedS.inj h1 h2)
theorem spL_is (p : Nat × Nat) : WideAt.IsKeyLit (spL p) := trivial
end Go.Proofs.Ythlbplmghjaeoae
