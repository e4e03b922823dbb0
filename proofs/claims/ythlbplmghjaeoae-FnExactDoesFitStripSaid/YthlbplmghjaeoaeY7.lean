/- Opening: a free cell of a board, and what a click on it opens, by the program. -/
import Derived.Test.YthlbplmghjaeoaeY6
import Derived.Test.YthlbplmghjaeoaeN6
import Derived.Outline
namespace Go.Proofs.Ythlbplmghjaeoae
open Go.RowKit

/-- Is there a cell, and has it no mine? -/
def freeB (cells : List UInt8) (c : Int) : Bool := if 0 ≤ c ∧ c < cells.length then !(cells.getD c.toNat 0 == 42) else false
/-- Are there a board and a free cell? -/
def freeOK (l : List UInt8) (c : Int) : Bool := freeB (gCells l) c
theorem freeOK_yes {l : List UInt8} {c : Int} (h : freeOK l c = true) : boGoodM l = true ∧ ∃ k : Nat, c = k ∧ k < (gCells l).length ∧ (gCells l).getD k 0 ≠ 42 := by
  unfold freeOK freeB at h
  split at h
  · rename_i hc
    refine ⟨?_, c.toNat, by omega, by omega, by simpa using h⟩
    by_cases hg : boGoodM l = true
    · exact hg
    · have : gCells l = [] := by rw [gCells, if_neg hg]
      rw [this] at hc
      simp at hc
      omega
  · cases h
theorem freeB_at (cells : List UInt8) (k : Nat) (hk : k < cells.length) : freeB cells k = !(cells[k] == 42) := by
  unfold freeB
  rw [if_pos ⟨by omega, by omega⟩]
  simp [List.getD, hk]
theorem freeB_out (cells : List UInt8) (c : Int) (h : c < 0 ∨ (cells.length : Int) ≤ c) : freeB cells c = false := by
  unfold freeB
  rw [if_neg (by omega)]

set_option maxRecDepth 100000 in
theorem isFree_any {J : Bool} (W H : Nat) (a : Option Addr) (cells : List UInt8) (cap : Nat) (c : Int) (w : World) (hat : At w a (byts cells)) (hl : cells.length ≤ 64) :
    Calls Try.prog 69 #[.agg #[.int .i64 W, .int .i64 H, .slice a cells.length cap, .bool J], .int .i64 c] w fun e w' => e = .returned (.bool (freeB cells c)) ∧ Below w.heap.size w w' := by
  have hb0 : Below w.heap.size w (w.alloc (.cells #[.int .i64 W, .int .i64 H, .slice a cells.length cap, .bool J] 66)) := (Below.refl _ _).alloc (Nat.le_refl _) _
  have hG0 : (w.alloc (.cells #[.int .i64 W, .int .i64 H, .slice a cells.length cap, .bool J] 66)).heap[w.heap.size]? = some (.cells #[.int .i64 W, .int .i64 H, .slice a cells.length cap, .bool J] 66 (0, 0)) := heap_alloc_new w _
  have hs0 : w.heap.size < (w.alloc (.cells #[.int .i64 W, .int .i64 H, .slice a cells.length cap, .bool J] 66)).heap.size := by simp
  have hat0 : At (w.alloc (.cells #[.int .i64 W, .int .i64 H, .slice a cells.length cap, .bool J] 66)) a (byts cells) := hat.later rfl hb0
  have hc := fun w => hasCell_any (J := J) W H a cells.length cap c w
  by_cases hin : 0 ≤ c ∧ c < cells.length
  · obtain ⟨k, rfl⟩ : ∃ k : Nat, c = k := ⟨c.toNat, by omega⟩
    have hk : k < cells.length := by omega
    have HB := Lib.hid (freeB_at cells k hk)
    rw [show inC cells.length (k : Int) = true by simp [inC]; omega] at hc
    have hm := fun w h => isMine_any (J := J) W H a cells cap k w h hk hl
    have e : Hid (((cells[k].toNat : Int) == 42) = (cells[k] == 42)) := byte_beq cells[k] 42 (by omega)
    clear hin
    go_enter Try.func69, Try.ntmps69
    go_wp2_with fail
    generalize w.alloc (.cells #[.int .i64 W, .int .i64 H, .slice a cells.length cap, .bool J] 66) = w0 at *
    refine (hc _).mono ?_
    rintro e w1 ⟨rfl, hb1⟩
    have hG1 := (hb1.block _ hs0).trans hG0
    have hf0 := cell_of_block hG1 0
    have hf1 := cell_of_block hG1 1
    have hf2 := cell_of_block hG1 2
    have hf3 := cell_of_block hG1 3
    simp at hf0 hf1 hf2 hf3
    clear hG1 hG0
    go_wp2_with fail
    refine (hm _ (hat0.later rfl hb1)).mono ?_
    rintro e w2 ⟨rfl, hb2⟩
    go_wp2_with fail
    go_ret
    exact ⟨by rw [HB.out, ← e.out]; rfl, (hb0.trans (hb1.mono (by omega))).trans (hb2.mono (by have := hb1.size; omega))⟩
  · have HB := Lib.hid (freeB_out cells c (by omega))
    rw [show inC cells.length c = false by simp [inC]; omega] at hc
    go_enter Try.func69, Try.ntmps69
    go_wp2_with fail
    generalize w.alloc (.cells #[.int .i64 W, .int .i64 H, .slice a cells.length cap, .bool J] 66) = w0 at *
    refine (hc _).mono ?_
    rintro e w1 ⟨rfl, hb1⟩
    go_wp2_with fail
    go_ret
    exact ⟨by rw [HB.out]; rfl, hb0.trans (hb1.mono (by omega))⟩


/-- What OpenedBy hands back. -/
def opOf (l : List UInt8) (c : Int) : List Nat := if freeOK l c = true then opM (gCells l) (gW l) c.toNat else []
theorem opOf_len (l : List UInt8) (c : Int) : (opOf l c).length ≤ 1048576 := by
  unfold opOf
  split
  · exact Nat.le_trans (opM_le _ _ _) (Nat.le_trans (gCells_le l) (by decide))
  · simp

end Go.Proofs.Ythlbplmghjaeoae
