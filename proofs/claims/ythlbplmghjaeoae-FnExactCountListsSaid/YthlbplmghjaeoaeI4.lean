/- Walks: boards, sizes and mines as the program tells them. -/
import Derived.Test.YthlbplmghjaeoaeI2
import Derived.Deep.QuietTactic
import Derived.BigQuiet
import Derived.WalkSmall
import Derived.Outline
namespace Go.Proofs.Ythlbplmghjaeoae
open Go.RowKit

/-- The cells of the grid that the program reads: none if there is no board. -/
def gCells (l : List UInt8) : List UInt8 := if boGoodM l = true then cellsM l else []
theorem gCells_le (l : List UInt8) : (gCells l).length ≤ 64 := by
  unfold gCells
  by_cases h : boGoodM l = true
  · obtain ⟨_, _, f3, f4, _, _, f7, _⟩ := readM_facts h
    rw [if_pos h, f7]
    exact Nat.mul_le_mul f3 f4
  · rw [if_neg h]; simp
theorem gW_le (l : List UInt8) : gW l ≤ 8 := by
  unfold gW
  by_cases h : boGoodM l = true
  · obtain ⟨_, _, f3, _, _, f6, _⟩ := readM_facts h
    rw [if_pos h, f6]; exact f3
  · rw [if_neg h]; omega
theorem gH_le (l : List UInt8) : gH l ≤ 8 := by
  unfold gH
  by_cases h : boGoodM l = true
  · obtain ⟨_, _, _, f4, _, f6, _⟩ := readM_facts h
    rw [if_pos h, f6]; exact f4
  · rw [if_neg h]; omega
theorem gCells_len (l : List UInt8) : (gCells l).length = gW l * gH l := by
  unfold gCells gW gH
  by_cases h : boGoodM l = true
  · obtain ⟨_, _, _, _, _, f6, f7, _⟩ := readM_facts h
    rw [if_pos h, if_pos h, if_pos h, f7, f6]
  · rw [if_neg h, if_neg h]; simp

theorem gr_board (l : List UInt8) : grW rowSign l = gW l ∧ grH rowSign l = gH l ∧ grC rowSign l = gCells l := by
  unfold grW grH grC gW gH gCells
  rw [grid_good]
  by_cases h : boGoodM l = true
  · obtain ⟨_, _, _, _, _, f6, _⟩ := readM_facts h
    simp [h, f6]
  · simp [h]



set_option maxRecDepth 100000 in
theorem isMine_any {J : Bool} (W H : Nat) (a : Option Addr) (cells : List UInt8) (cap : Nat) (k : Nat) (w : World) (hat : At w a (byts cells)) (hk : k < cells.length) (_hl : cells.length ≤ 64) :
    Calls Try.prog 85 #[.agg #[.int .i64 W, .int .i64 H, .slice a cells.length cap, .bool J], .int .i64 k] w fun e w' => e = .returned (.bool ((cells[k].toNat : Int) == 42)) ∧ Below w.heap.size w w' := by
  obtain ⟨b, off, rfl, hc⟩ := byts_at hat k hk
  have hbl := World.block_lt_of_cell? w _ hc
  have hc' : ∀ o, (w.alloc o).cell? ⟨b, off + k, none⟩ = some (.int .u8 (cells[k].toNat : Int)) := fun o => by rw [cell_new w o b hbl]; exact hc
  go_enter Try.func85, Try.ntmps85
  go_wp2_with fail
  go_ret
  exact ⟨rfl, (Below.refl _ _).alloc (Nat.le_refl _) _⟩

end Go.Proofs.Ythlbplmghjaeoae
