/- Listed boards by the program: their texts; the first board with the greatest sum. -/
import Derived.Test.YthlbplmghjaeoaeGKD
import Derived.Outline
namespace Go.Proofs.Ythlbplmghjaeoae
open Go.RowKit

theorem slice12 (b n : Nat) (hn : n ≤ 12) (w : World) : (Instr.sliceAt 43 (.pointer (some ⟨b, 0, none⟩)) none (some (.int .i64 n)) none).run Try.prog w = .ok (.slice (some ⟨b, 0, none⟩) n 12) w := by
  have h1 : (n : Int) ≤ 12 := by omega
  have h2 : (0 : Int) ≤ (n : Int) := by omega
  simp [Instr.sliceAt, Instr.sliceBounds, Instr.sliceBound, Instr.sureAddr, asIntOf, run_underlying Try.underlying43, Try.sizeOf5, h2, Addr.add_lit]
  try omega

set_option maxRecDepth 100000 in
set_option maxHeartbeats 1600000 in
theorem lbText_any (x : LB) (W H : Nat) (cells : List UInt8) (hc : cells = x.1.take (W * H)) (hW : 1 ≤ W ∧ W ≤ 8) (hH : 1 ≤ H ∧ H ≤ 8) (h12 : W * H ≤ 12) (w : World) :
    Calls Try.prog 33 #[.agg (encB x).toArray, .int .i64 W, .int .i64 H] w fun e w' => e = .returned (.string ⟨(textM cells W H).toArray⟩) ∧ Below w.heap.size w w' := by
  have hn : cells.length = W * H := by rw [hc, List.length_take, x.2]; omega
  have htx := fun a cap w hat hcap => text_any W H a cells cap w hat hcap hn (.inr ⟨hW, hH⟩)
  rw [hn] at htx
  have hWH : (W : Int) * (H : Int) = ((W * H : Nat) : Int) := (Int.natCast_mul W H).symm
  have c0 : wrap64 ((W : Int) * (H : Int)) = ((W * H : Nat) : Int) := by rw [hWH]; exact IntWalk.wrap64_in _ ⟨by omega, by omega⟩
  have c1 : IntKind.i64.wrap ((W : Int) * (H : Int)) = ((W * H : Nat) : Int) := by rw [hWH]; exact IntWalk.i64_in _ ⟨by omega, by omega⟩
  have hat : At (w.alloc (.cells (encB x).toArray 45)) (some ⟨w.heap.size, 0, none⟩) (byts cells) := by
    intro k hk
    rw [byts_length, hn] at hk
    refine ⟨w.heap.size, 0, rfl, ?_⟩
    rw [Nat.zero_add, boxB_cell x w _ k (by omega)]
    have hkx : k < x.1.length := by rw [x.2]; omega
    simp [byts, hc, LB.at, List.getD, hkx]
  clear hc c1 hWH
  generalize W * H = n at *
  have HTX := Lib.hid htx
  clear htx
  have hsl := slice12 w.heap.size n h12
  have hb0 : Below w.heap.size w (w.alloc (.cells (encB x).toArray 45)) := (Below.refl _ _).alloc (Nat.le_refl _) _
  go_enter Try.func33, Try.ntmps33
  go_wp2_with fail
  refine (HTX.out _ 12 _ hat (by omega)).mono ?_
  rintro e w2 ⟨rfl, hb2⟩
  go_wp2_with fail
  go_ret
  exact ⟨rfl, hb0.trans (hb2.mono hb0.size)⟩

end Go.Proofs.Ythlbplmghjaeoae
