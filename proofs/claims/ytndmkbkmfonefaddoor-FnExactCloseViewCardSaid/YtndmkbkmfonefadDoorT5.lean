/- Walks: another sign in a cell, by the model. -/
import Derived.Test.YtndmkbkmfonefadDoorT4
import Derived.Outline
namespace Go.Proofs.YtndmkbkmfonefadDoor
open Go.RowKit

set_option maxRecDepth 100000 in
set_option maxHeartbeats 400000 in
theorem boPut_any (l : List UInt8) (W H : Nat) (cells : List UInt8) (k : Nat) (s : UInt8) (w : World) (hl : l.length ≤ 1048576) (hB : Grd l W H cells) (hk : k < cells.length) :
    Calls Tryd.prog 71 #[.string ⟨l.toArray⟩, .int .i64 k, .string ⟨[s].toArray⟩] w fun e w' => e = .returned (.string ⟨(textM (cells.set k s) W H).toArray⟩) ∧ Below w.heap.size w w' := by
  have hn64 := hB.n64
  have HC := Lib.hid hB.cs
  have HS := Lib.hid hB.size
  have hset : Hid (cells.take k ++ s :: List.take (cells.length - (k + 1)) (cells.drop (k + 1)) = cells.set k s) := by
    rw [Hid, List.set_eq_take_append_cons_drop, if_pos hk, List.take_of_length_le (l := cells.drop (k + 1)) (by simp)]
  have hbr : Hid (brGo W 0 (cells.set k s) = textM (cells.set k s) W H) := brGo_text W H hB.w1 _ (by simpa using hB.len)
  have hW1 := hB.w1
  have hW8 := hB.w8
  go_enter Tryd.func71, Tryd.ntmps71
  go_wp2_with fail
  refine (boSize_any l _ hl).mono ?_
  rintro e w1 ⟨rfl, hb1⟩
  rw [HS.out]
  go_wp2_with fail
  refine (boCells_any l _ hl).mono ?_
  rintro e w1' ⟨rfl, rfl⟩
  rw [HC.out]
  clear hB
  go_wp2_with fail
  have i0 : (0 : Int) ≤ (k : Int) := by omega
  have i1 : (k : Int) ≤ (cells.length : Int) := by omega
  have i2 : (k : Int) + 1 ≤ (cells.length : Int) := by omega
  have i3 : IntKind.i64.wrap ((k : Int) + 1) = (k : Int) + 1 := IntWalk.i64_in _ ⟨by omega, by omega⟩
  have j1 : ¬ 9223372036854775807 < min k cells.length + 1 := by omega
  have j2 : ¬ 9223372036854775807 < min k cells.length + 1 + (cells.length - (k + 1)) := by omega
  have i4 : (0 : Int) ≤ (k : Int) + 1 := by omega
  have hc : ∀ w, Calls Tryd.prog 51 #[.string ⟨(cells.take k ++ s :: List.take (cells.length - (k + 1)) (cells.drop (k + 1))).toArray⟩, .int .i64 W] w fun e w' => e = .returned (.string ⟨(textM (cells.set k s) W H).toArray⟩) ∧ w' = w := fun w => by
    have q := boRows_any (cells.set k s) W w (by simpa using hn64) hW1 (by omega)
    rw [hbr.out] at q
    rw [hset.out]
    exact q.mono fun _ _ h => ⟨h.1, h.2.symm⟩
  obtain ⟨R, hR⟩ : ∃ R, textM (cells.set k s) W H = R := ⟨_, rfl⟩
  rw [hR] at hc
  have HR := Lib.hid hR
  clear hbr hset hR
  go_quiet ((go_at_call 51; refine Calls.quiet_of_same (hc _)))
  go_wp2_with fail
  go_ret
  exact ⟨by rw [HR.out]; rfl, below_drewN hb1 _⟩

end Go.Proofs.YtndmkbkmfonefadDoor
