/- How many solutions, and whether there is just one: by the model and by the program. -/
import Derived.Test.YtnnbkbjhombblaaAL
import Derived.Test.YtnnbkbjhombblaaAM
import Derived.Test.YtnnbkbjhombblaaA7
import Derived.Test.YtnnbkbjhombblaaA8
import Derived.Test.YtnnbkbjhombblaaAC
namespace Go.Proofs.Ytnnbkbjhombblaa
open Go.RowKit

/-- How many solutions a puzzle has; 0 where there is none. -/
def csN (x y : Int) (cs : List Clu) : Nat := if pzB x y cs = true then (solC x.toNat (x.toNat * y.toNat) cs).length else 0
theorem csN_no {x y : Int} {cs : List Clu} (h : pzB x y cs = false) : csN x y cs = 0 := by simp [csN, h]
theorem csN_yes {W H : Nat} {cs : List Clu} (h : pzB W H cs = true) : csN W H cs = (solC W (W * H) cs).length := by simp [csN, h]
set_option maxRecDepth 100000 in
set_option maxHeartbeats 1600000 in
theorem sCount_any (x y : Int) (a : Option Addr) (n cap : Nat) (cs : List Clu) (w : World) (hn : n = cs.length) (hat : At w a (flatC cs)) :
    Calls Try.prog 19 #[.agg #[.int .i64 x, .int .i64 y, .slice a n cap]] w fun e w' => e = .returned (.tuple #[.int .i64 (csN x y cs : Nat), .bool (pzB x y cs)]) ∧ Below w.heap.size w w' := by
  subst hn
  have hb : Below w.heap.size w (w.alloc (.cells #[.int .i64 x, .int .i64 y, .slice a cs.length cap] 35)) := (Below.refl _ _).alloc (Nat.le_refl _) _
  have hat1 := hat.later rfl hb
  have HP := Lib.hid (fun w hat => pzGood_any x y a cs.length cap cs w rfl hat)
  have hG := heap_alloc_new w (.cells #[.int .i64 x, .int .i64 y, .slice a cs.length cap] 35)
  cases h : pzB x y cs with
  | false =>
    have HN := Lib.hid (csN_no h)
    rw [h] at HP
    clear h hG
    go_enter Try.func19, Try.ntmps19
    go_wp2_with fail
    refine (HP.out _ hat1).mono ?_
    rintro e w1 ⟨rfl, hb1⟩
    have hb2 := hb.trans (hb1.mono hb.size)
    clear hb hb1 hat1 hat
    go_wp2_with fail
    go_ret2
    exact ⟨by rw [HN.out]; rfl, hb2⟩
  | true =>
    rw [h] at HP
    obtain ⟨W, H, rfl, rfl, hW, hH, h9, hs, h8, hc⟩ := pz_yes h
    have HN := Lib.hid (csN_yes h)
    have HA := Lib.hid (fun w hat => pzAll_any W H cs.length cap a cs w hW hH h9 rfl h8 hc hat)
    clear h hs hc
    go_enter Try.func19, Try.ntmps19
    go_wp2_with fail
    generalize w.alloc (.cells #[.int .i64 W, .int .i64 H, .slice a cs.length cap] 35) = w0 at *
    refine (HP.out _ hat1).mono ?_
    rintro e w1 ⟨rfl, hb1⟩
    have hb2 := hb.trans (hb1.mono hb.size)
    have hG1 := (hb1.block _ (block_lt hG)).trans hG
    have hat2 := hat1.later rfl hb1
    clear hb hb1 hat1 hat hG
    have f0 := cell_of_block hG1 0
    have f1 := cell_of_block hG1 1
    have f2 := cell_of_block hG1 2
    simp at f0 f1 f2
    clear hG1
    go_wp2_with fail
    refine (HA.out _ hat2).mono ?_
    rintro e w2 ⟨a2, c2, rfl, hown, hb3⟩
    have hb4 := hb2.trans (hb3.mono hb2.size)
    clear hb2 hb3 hat2 hown f0 f1 f2
    go_wp2_with fail
    go_ret2
    exact ⟨by rw [HN.out]; rfl, hb4⟩
set_option maxRecDepth 100000 in
set_option maxHeartbeats 1600000 in
theorem iCount_any (x y : Int) (a : Option Addr) (n cap : Nat) (cs : List Clu) (w : World) (hn : n = cs.length) (hat : At w a (flatC cs)) :
    Calls Try.prog 20 #[.agg #[.int .i64 x, .int .i64 y, .slice a n cap]] w fun e w' => e = .returned (.tuple #[.int .i64 (csN x y cs : Nat), .bool (pzB x y cs)]) ∧ Below w.heap.size w w' := by
  subst hn
  have hb : Below w.heap.size w (w.alloc (.cells #[.int .i64 x, .int .i64 y, .slice a cs.length cap] 35)) := (Below.refl _ _).alloc (Nat.le_refl _) _
  have hat1 := hat.later rfl hb
  cases h : pzB x y cs with
  | false =>
    have HN := Lib.hid (csN_no h)
    have HR := Lib.hid (fun w hat => readS_no x y a cs.length cap cs w rfl hat h)
    clear h
    go_enter Try.func20, Try.ntmps20
    go_wp2_with fail
    refine (HR.out _ hat1).mono ?_
    rintro e w1 ⟨rfl, hb1⟩
    have hb2 := hb.trans (hb1.mono hb.size)
    clear hb hb1 hat1 hat
    go_wp2_with fail
    go_ret2
    exact ⟨by rw [HN.out]; rfl, hb2.alloc hb2.size _⟩
  | true =>
    obtain ⟨W, H, rfl, rfl, hW, hH, h9, hs, h8, hc⟩ := pz_yes h
    have HN := Lib.hid (csN_yes h)
    have HR := Lib.hid (fun w hat => readS_yes W H a cs.length cap cs w rfl hat h)
    clear h hs hc
    go_enter Try.func20, Try.ntmps20
    go_wp2_with fail
    refine (HR.out _ hat1).mono ?_
    rintro e w1 ⟨v1, u1, rfl, hR1, hO1, hb1⟩
    obtain ⟨a1, c1, hv⟩ := hR1.shape
    subst hv
    obtain ⟨a2, c2, hv⟩ := hO1.shape
    subst hv
    have hb2 := hb.trans (hb1.mono hb.size)
    clear hb hb1 hat1 hat hR1 hO1
    simp only [List.length_map]
    go_wp2_with fail
    go_ret2
    exact ⟨by rw [HN.out]; rfl, hb2.alloc hb2.size _⟩
end Go.Proofs.Ytnnbkbjhombblaa
