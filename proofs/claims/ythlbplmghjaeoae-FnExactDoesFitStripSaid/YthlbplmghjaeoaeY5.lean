/- Opening: the cells for which a condition holds, by the program. -/
import Derived.Test.YthlbplmghjaeoaeY4
import Derived.Outline
namespace Go.Proofs.Ythlbplmghjaeoae
open Go.RowKit

/-- The numbers below n for which p holds. -/
def filtM (p : Nat → Bool) (n : Nat) : List Nat := (List.range n).filter p
theorem filtM_le (p : Nat → Bool) (n : Nat) : (filtM p n).length ≤ n := by
  refine Nat.le_trans (List.length_filter_le _ _) ?_
  rw [List.length_range]
  exact Nat.le_refl n
theorem filtM_yes {p : Nat → Bool} {k : Nat} (h : p k = true) : filtM p (k + 1) = filtM p k ++ [k] := by
  simp [filtM, List.range_succ, List.filter_append, h]
theorem filtM_no {p : Nat → Bool} {k : Nat} (h : p k = false) : filtM p (k + 1) = filtM p k := by
  simp [filtM, List.range_succ, List.filter_append, h]

set_option maxRecDepth 100000 in
set_option maxHeartbeats 1600000 in
theorem pick_any {J : Bool} (W H : Nat) (a : Option Addr) (n cap : Nat) (p : Nat → Bool) (F : Nat) (first cp : Array Value) (w : World) (hn : n ≤ 64) (hE : ∀ (args : Array Value) (w' : World), (callFunc F args).run Try.prog w' = .ok (.enter F args) w')
    (hf : ∀ (w' : World) (k : Nat), Below w.heap.size w w' → k < n → Calls Try.prog F (first.push (.int .i64 (k : Int)) ++ cp) w' fun e w'' => e = .returned (.bool (p k)) ∧ Below w'.heap.size w' w'') :
    Calls Try.prog 68 #[.agg #[.int .i64 W, .int .i64 H, .slice a n cap, .bool J], .func (.func F) first cp] w fun e w' => ∃ a' cap', e = .returned (.slice a' (filtM p n).length cap') ∧ Owns w' w.heap.size 3 (.slice a' (filtM p n).length cap') (nats (filtM p n)) ∧ Below w.heap.size w w' := by
  have HF := Lib.hid hf
  clear hf
  go_enter Try.func68, Try.ntmps68
  go_wp2_with fail
  have hb0 : Below w.heap.size w (w.alloc (.cells #[.int .i64 W, .int .i64 H, .slice a n cap, .bool J] 66)) := (Below.refl _ _).alloc (Nat.le_refl _) _
  generalize w.alloc (.cells #[.int .i64 W, .int .i64 H, .slice a n cap, .bool J] 66) = w0 at *
  go_loopw [5, 10] (fun v i wr => ∃ k : Nat, k ≤ n ∧ i = .int .i64 k ∧ Owns wr w.heap.size 3 v (nats (filtM p k)) ∧ Below w.heap.size w wr) (fun _ i _ => n - (intOf i).toNat)
  case atStart => exact ⟨0, Nat.zero_le _, rfl, Owns.nil _ _ _, hb0⟩
  case round =>
    obtain ⟨k, hk, rfl, hown, hbr⟩ := hrel
    have hle := filtM_le p k
    have hsr := hbr.size
    by_cases hlt : k < n
    · cases hp : p k with
      | true =>
        have hc := HF.out wr k hbr hlt
        rw [hp] at hc
        have Hp := Lib.hid hp
        have HC := Lib.hid hc
        clear hp hc
        go_wp2_with fail
        refine HC.out.mono ?_
        rintro e w2 ⟨rfl, hb2⟩
        go_wp2_with (at_builtin; refine wpList_app1 rfl _ _ _ rfl _ _ _ _ elemInt _ _ _ _ rfl rfl rfl (hown.later hb2) rfl (by simp; omega) (by have := hb2.size; omega) (by simp; omega) ?_; intro v1 w3 hown1 hb3 hs3)
        rw [nats_snoc, ← filtM_yes Hp.out] at hown1
        go_roundw
        case rel => exact ⟨k + 1, by omega, by go_num, hown1, (hbr.trans (hb2.mono hsr)).trans hb3⟩
        case measure => simp [intOf]; omega
      | false =>
        have hc := HF.out wr k hbr hlt
        rw [hp] at hc
        have Hp := Lib.hid hp
        have HC := Lib.hid hc
        clear hp hc
        go_wp2_with fail
        refine HC.out.mono ?_
        rintro e w2 ⟨rfl, hb2⟩
        go_wp2_with fail
        go_roundw
        case rel => exact ⟨k + 1, by omega, by go_num, by rw [filtM_no Hp.out]; exact hown.later hb2, hbr.trans (hb2.mono hsr)⟩
        case measure => simp [intOf]; omega
    · obtain rfl : k = n := by omega
      go_wp2_with fail
      go_ret
      obtain ⟨a', cap', hv⟩ := hown.shape
      simp only [nats_length] at hv
      exact ⟨a', cap', by rw [← hv]; rfl, by rw [← hv]; exact hown, hbr⟩
end Go.Proofs.Ythlbplmghjaeoae
