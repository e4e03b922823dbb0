/- Walks: a grid without mines; the cell at a spot. -/
import Derived.Test.YtbnoallcdjpihaaDoorT3
import Derived.Test.YtbnoallcdjpihaaDoorGN1
import Derived.Outline
namespace Go.Proofs.YtbnoallcdjpihaaDoor
open Go.RowKit


set_option maxRecDepth 100000 in
set_option maxHeartbeats 800000 in
theorem cellAt_any {J : Bool} (W H : Nat) (a : Option Addr) (n cap : Nat) (r c : Nat) (w : World) (hW : W ≤ 8) (hr : r ≤ 64) (hc : c ≤ 64) :
    Calls Tryd.prog 60 #[.agg #[.int .i64 W, .int .i64 H, .slice a n cap, .bool J], .agg #[.int .i64 r, .int .i64 c]] w fun e w' => e = .returned (.int .i64 ((r * W + c : Nat) : Int)) ∧ Below w.heap.size w w' := by
  have h1 : r * W ≤ 64 * 8 := Nat.mul_le_mul hr hW
  obtain ⟨p, hp⟩ : ∃ p, r * W = p := ⟨_, rfl⟩
  have e1 : ((r : Int) * (W : Int)) = (p : Int) := by rw [← hp]; simp
  rw [hp] at h1 ⊢
  have m1 : wrap64 ((r : Int) * (W : Int)) = (p : Int) := by rw [e1, IntWalk.wrap64_in _ ⟨by omega, by omega⟩]
  clear e1 hp
  go_enter Tryd.func60, Tryd.ntmps60
  go_wp2_with fail
  go_ret
  exact ⟨rfl, ((Below.refl _ _).alloc (Nat.le_refl _) _).alloc (by simp) _⟩
end Go.Proofs.YtbnoallcdjpihaaDoor
