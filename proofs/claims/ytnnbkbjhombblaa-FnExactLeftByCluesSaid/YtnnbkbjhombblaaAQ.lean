/- How many boards fit each clue alone, by the program. -/
import Derived.Test.YtnnbkbjhombblaaAK
import Derived.Test.YtnnbkbjhombblaaA7
import Derived.Test.YtnnbkbjhombblaaA3
namespace Go.Proofs.Ytnnbkbjhombblaa
open Go.RowKit

/-- How many boards fit each clue alone. -/
def aloneC (W H : Nat) (cs : List Clu) : List Int := cs.map fun c => ((solC W (W * H) [c]).length : Int)
set_option maxRecDepth 100000 in
set_option maxHeartbeats 1600000 in
theorem countSol_any (W H n cap : Nat) (a : Option Addr) (cs : List Clu) (w : World) (hW : 1 ≤ W ∧ W ≤ 8) (hH : 1 ≤ H ∧ H ≤ 8) (h9 : W * H ≤ 9) (hn : n = cs.length) (hl : cs.length ≤ 1000000) (hc : ∀ c ∈ cs, cluB W H c = true) (hat : At w a (flatC cs)) :
    Calls Try.prog 54 #[.agg #[.int .i64 W, .int .i64 H, .slice a n cap]] w fun e w' => e = .returned (.int .i64 ((solC W (W * H) cs).length : Nat)) ∧ Below w.heap.size w w' := by
  subst hn
  have hb : Below w.heap.size w (w.alloc (.cells #[.int .i64 W, .int .i64 H, .slice a cs.length cap] 35)) := (Below.refl _ _).alloc (Nat.le_refl _) _
  have hat1 := hat.later rfl hb
  have HS := Lib.hid (fun w hat => solutions_any W H cs.length cap a cs w hW hH h9 rfl hl hc hat)
  clear hc hat
  go_enter Try.func54, Try.ntmps54
  go_wp2_with fail
  refine (HS.out _ hat1).mono ?_
  rintro e w1 ⟨v1, rfl, hO1, hb1⟩
  obtain ⟨a2, c2, hv⟩ := hO1.shape
  subst hv
  have hb2 := hb.trans (hb1.mono hb.size)
  clear hb hb1 hat1 hO1
  simp only [List.length_map]
  go_wp2_with fail
  go_ret
  exact ⟨rfl, hb2⟩
end Go.Proofs.Ytnnbkbjhombblaa
