/- Sets of cells by the program: the lowest member, the members in order, the set of a list. -/
import Derived.Test.YthlbplmghjaeoaaDoorC1
import Derived.Test.YthlbplmghjaeoaaDoorN3
import Derived.Shelf.Spec.TrailingZeros
import Derived.Laws.BitsAllLaws
import Derived.Outline
namespace Go.Proofs.YthlbplmghjaeoaaDoor
open Go.RowKit

/-- The library's table that the lowest bit is looked up in. -/
def HasTab (w : World) : Prop := ∀ j, j < Lib.deBruijn64tab.length → w.cell? ⟨0, j, none⟩ = some (.int .u8 ((Lib.deBruijn64tab.getD j 0 : Nat) : Int))
theorem HasTab.later {w w' : World} (h : HasTab w) (hb : Below w.heap.size w w') : HasTab w' := fun j hj => kept1 (h j hj) hb

set_option maxRecDepth 100000 in
set_option maxHeartbeats 1600000 in
theorem tz64_core (x k idx : Nat) (w : World) (hx0 : ((x : Int) == 0) = false)
    (key : IntKind.u64.wrap (bits BinOp.and IntKind.u64 (x : Int) (IntKind.u64.wrap (-(x : Int))) * 285870213051353865) / 288230376151711744 = (idx : Int))
    (hi : idx < 64) (hk : k < 64) (hcell : w.cell? ⟨0, idx, none⟩ = some (.int .u8 k)) :
    Calls Tryd.prog 93 #[.int .u64 (x : Int)] w fun e w' => e = .returned (.int .i64 k) ∧ w = w' := by
  go_enter Tryd.func93, Tryd.ntmps93
  go_wp2_with (simp only [key])
  go_ret
  exact ⟨rfl, rfl⟩
theorem tz64_any (x : Nat) (w : World) (hT : HasTab w) (h0 : x ≠ 0) (hx : x < 18446744073709551616) :
    Calls Tryd.prog 93 #[.int .u64 (x : Int)] w fun e w' => e = .returned (.int .i64 (Lib.ctz 64 x : Nat)) ∧ w = w' := by
  obtain ⟨hlow, hk⟩ := Lib.lowest_bit 64 x h0 hx
  obtain ⟨hi, htab⟩ := Lib.deBruijn64_at _ hk
  have hcell := hT _ hi
  rw [htab] at hcell
  exact tz64_core x _ _ w (by simp; omega) (tz64_key x _ hx h0 hlow) hi hk hcell

theorem u64_clear (x : Nat) (h0 : x ≠ 0) (hx : x < 18446744073709551616) : bits .and .u64 (x : Int) ((x : Int) - 1) = ((x &&& (x - 1) : Nat) : Int) := by
  rw [show ((x : Int) - 1) = ((x - 1 : Nat) : Int) by omega]
  exact u64_and x (x - 1) hx (by omega)
theorem clear_lt (x : Nat) (h0 : x ≠ 0) : x &&& (x - 1) < x := by
  have : x &&& (x - 1) ≤ x - 1 := Nat.and_le_right
  omega

set_option maxRecDepth 100000 in
set_option maxHeartbeats 1600000 in
theorem areaCells_any (x : Nat) (w : World) (hT : HasTab w) (hx : x < 18446744073709551616) :
    Calls Tryd.prog 59 #[.int .u64 (x : Int)] w fun e w' => ∃ a cap, e = .returned (.slice a (bitsM x).length cap) ∧ Owns w' w.heap.size 3 (.slice a (bitsM x).length cap) (nats (bitsM x)) ∧ Below w.heap.size w w' := by
  have hbl := bitsM_le x
  go_enter Tryd.func59, Tryd.ntmps59
  go_wp2_with fail
  go_loopw [3, 4] (fun v l wr => ∃ left : Nat, l = .int .u64 (left : Int) ∧ left < 18446744073709551616 ∧ ∃ acc : List Nat, acc.length ≤ 64 ∧ Owns wr w.heap.size 3 v (nats acc) ∧ Below w.heap.size w wr ∧ Hid (bitsM x = acc ++ bitsM left)) (fun _ l _ => (intOf l).toNat)
  case atStart => exact ⟨x, rfl, hx, [], by simp, Owns.nil _ _ _, Below.refl _ _, rfl⟩
  case round =>
    obtain ⟨left, rfl, hl, acc, hacc, hown, hb, hR⟩ := hrel
    by_cases h0 : left = 0
    · subst h0
      have hR2 : bitsM x = acc := by rw [hR.out, bitsM_zero, List.append_nil]
      go_wp2_with fail
      go_ret
      obtain ⟨a, cap, hv⟩ := hown.shape
      simp only [nats_length] at hv
      exact ⟨a, cap, by rw [hR2, ← hv]; rfl, by rw [hR2, ← hv]; exact hown, hb⟩
    · have hd : ((left : Int) != 0) = true := by simp; omega
      have HL := Lib.hid (bitsM_low left h0 hl)
      have HC := u64_clear left h0 hl
      have hlt := clear_lt left h0
      have HTZ := Lib.hid (tz64_any left wr (hT.later hb) h0 hl)
      have hac2 : acc.length + 1 ≤ 64 := by
        have := congrArg List.length hR.out
        rw [HL.out] at this
        simp at this
        omega
      generalize left &&& (left - 1) = nxt at *
      generalize Lib.ctz 64 left = z at *
      clear h0 hT
      go_wp2_with (first | (at_builtin; refine wpList_app1 rfl _ _ _ rfl _ _ _ _ elemInt _ _ _ _ rfl rfl rfl hown rfl (by simp; omega) hb.size (by simp; omega) ?_; intro v1 w1 hown1 hb1 hs1) | (go_at_call 93; refine HTZ.out.mono ?_; rintro e w1 ⟨rfl, rfl⟩))
      rw [nats_snoc] at hown1
      go_roundw
      case rel => exact ⟨nxt, by go_num, by omega, _, by simp; omega, hown1, hb.trans hb1, by rw [Hid, hR.out, HL.out]; simp⟩
      case measure => simp [intOf]; omega
end Go.Proofs.YthlbplmghjaeoaaDoor
