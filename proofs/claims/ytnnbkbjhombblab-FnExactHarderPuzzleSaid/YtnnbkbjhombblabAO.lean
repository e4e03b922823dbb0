/- Whether there is just one solution, by the model and by the program. -/
import Derived.Test.YtnnbkbjhombblabAN
namespace Go.Proofs.Ytnnbkbjhombblab
open Go.RowKit

/-- Has a puzzle just one solution? -/
def csS (x y : Int) (cs : List Clu) : Bool := pzB x y cs && (((solC x.toNat (x.toNat * y.toNat) cs).length : Int) == 1)
theorem csS_no {x y : Int} {cs : List Clu} (h : pzB x y cs = false) : csS x y cs = false := by simp [csS, h]
theorem csS_yes {W H : Nat} {cs : List Clu} (h : pzB W H cs = true) : csS W H cs = (((solC W (W * H) cs).length : Int) == 1) := by simp [csS, h]
set_option maxRecDepth 100000 in
set_option maxHeartbeats 1600000 in
theorem pzSolved_any (W H n cap m c : Nat) (a b : Option Addr) (cs : List Clu) (w : World) (hW : 1 ≤ W ∧ W ≤ 8) (hH : 1 ≤ H ∧ H ≤ 8) (h9 : W * H ≤ 9) (hm : m = cs.length) (h8 : cs.length ≤ 8) (hc : ∀ c ∈ cs, cluB W H c = true) (hat : At w b (flatC cs)) :
    Calls Try.prog 46 #[.agg #[.int .i64 W, .int .i64 H, .slice a n cap], .slice b m c] w fun e w' => e = .returned (.bool (((solC W (W * H) cs).length : Int) == 1)) ∧ Below w.heap.size w w' := by
  subst hm
  have hb : Below w.heap.size w (w.alloc (.cells #[.int .i64 W, .int .i64 H, .slice a n cap] 30)) := (Below.refl _ _).alloc (Nat.le_refl _) _
  have hat1 := hat.later rfl hb
  have HW := Lib.hid (fun w => pzWith_any (W : Int) H a n cap b cs.length c w)
  have HA := Lib.hid (fun w hat => pzAll_any W H cs.length c b cs w hW hH h9 rfl h8 hc hat)
  clear hc hat
  generalize solC W (W * H) cs = S at *
  go_enter Try.func46, Try.ntmps46
  go_wp2_with fail
  refine (HW.out _).mono ?_
  rintro e w1 ⟨rfl, hb1⟩
  have hb2 := hb.trans (hb1.mono hb.size)
  have hat2 := hat1.later rfl hb1
  clear hb hb1 hat1
  go_wp2_with fail
  refine (HA.out _ hat2).mono ?_
  rintro e w2 ⟨a2, c2, rfl, hown, hb3⟩
  have hb4 := hb2.trans (hb3.mono hb2.size)
  clear hb2 hb3 hat2 hown
  go_wp2_with fail
  go_ret
  exact ⟨rfl, hb4⟩
end Go.Proofs.Ytnnbkbjhombblab
