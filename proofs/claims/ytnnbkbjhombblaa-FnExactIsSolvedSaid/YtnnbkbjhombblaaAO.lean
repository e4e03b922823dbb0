/- Whether there is just one solution, by the model and by the program. -/
import Derived.Test.YtnnbkbjhombblaaAN
namespace Go.Proofs.Ytnnbkbjhombblaa
open Go.RowKit

/-- Has a puzzle just one solution? -/
def csS (x y : Int) (cs : List Clu) : Bool := pzB x y cs && (((solC x.toNat (x.toNat * y.toNat) cs).length : Int) == 1)
theorem csS_no {x y : Int} {cs : List Clu} (h : pzB x y cs = false) : csS x y cs = false := by simp [csS, h]
theorem csS_yes {W H : Nat} {cs : List Clu} (h : pzB W H cs = true) : csS W H cs = (((solC W (W * H) cs).length : Int) == 1) := by simp [csS, h]
set_option maxRecDepth 100000 in
set_option maxHeartbeats 1600000 in
theorem pzSolved_any (W H n cap m c : Nat) (a b : Option Addr) (cs : List Clu) (w : World) (hW : 1 ≤ W ∧ W ≤ 8) (hH : 1 ≤ H ∧ H ≤ 8) (h9 : W * H ≤ 9) (hm : m = cs.length) (h8 : cs.length ≤ 8) (hc : ∀ c ∈ cs, cluB W H c = true) (hat : At w b (flatC cs)) :
    Calls Try.prog 47 #[.agg #[.int .i64 W, .int .i64 H, .slice a n cap], .slice b m c] w fun e w' => e = .returned (.bool (((solC W (W * H) cs).length : Int) == 1)) ∧ Below w.heap.size w w' := by
  subst hm
  have hb : Below w.heap.size w (w.alloc (.cells #[.int .i64 W, .int .i64 H, .slice a n cap] 35)) := (Below.refl _ _).alloc (Nat.le_refl _) _
  have hat1 := hat.later rfl hb
  have HW := Lib.hid (fun w => pzWith_any (W : Int) H a n cap b cs.length c w)
  have HA := Lib.hid (fun w hat => pzAll_any W H cs.length c b cs w hW hH h9 rfl h8 hc hat)
  clear hc hat
  generalize solC W (W * H) cs = S at *
  go_enter Try.func47, Try.ntmps47
  go_wp2_with fail
  refine (HW.out _).mono ?_
  rintro e w1 ⟨rfl, hb1⟩
  have hb2 := hb.trans (hb1.mono hb.size)
  have hat2 := hat1.later rfl hb1
  clear hb hb1 hat1
  go_wp2_with fail
  refine (HA.out _ hat2).mono ?_
  rintro e w2 ⟨a2, c2, rfl, hown, hb3⟩
  have hb4 := hb2.trans (hb3.mono hb2.size)
  clear hb2 hb3 hat2 hown
  go_wp2_with fail
  go_ret
  exact ⟨rfl, hb4⟩
set_option maxRecDepth 100000 in
set_option maxHeartbeats 1600000 in
theorem sSolved_any (x y : Int) (a : Option Addr) (n cap : Nat) (cs : List Clu) (w : World) (hn : n = cs.length) (hat : At w a (flatC cs)) :
    Calls Try.prog 21 #[.agg #[.int .i64 x, .int .i64 y, .slice a n cap]] w fun e w' => e = .returned (.tuple #[.bool (csS x y cs), .bool (pzB x y cs)]) ∧ Below w.heap.size w w' := by
  subst hn
  have hb : Below w.heap.size w (w.alloc (.cells #[.int .i64 x, .int .i64 y, .slice a cs.length cap] 35)) := (Below.refl _ _).alloc (Nat.le_refl _) _
  have hat1 := hat.later rfl hb
  have HP := Lib.hid (fun w hat => pzGood_any x y a cs.length cap cs w rfl hat)
  have hG := heap_alloc_new w (.cells #[.int .i64 x, .int .i64 y, .slice a cs.length cap] 35)
  cases h : pzB x y cs with
  | false =>
    have HN := Lib.hid (csS_no h)
    rw [h] at HP
    clear h hG
    go_enter Try.func21, Try.ntmps21
    go_wp2_with fail
    refine (HP.out _ hat1).mono ?_
    rintro e w1 ⟨rfl, hb1⟩
    have hb2 := hb.trans (hb1.mono hb.size)
    clear hb hb1 hat1 hat
    go_wp2_with fail
    go_ret2
    exact ⟨by rw [HN.out]; rfl, hb2⟩
  | true =>
    rw [h] at HP
    obtain ⟨W, H, rfl, rfl, hW, hH, h9, hs, h8, hc⟩ := pz_yes h
    have HN := Lib.hid (csS_yes h)
    have HA := Lib.hid (fun w hat => pzSolved_any W H cs.length cap cs.length cap a a cs w hW hH h9 rfl h8 hc hat)
    clear h hs hc
    go_enter Try.func21, Try.ntmps21
    go_wp2_with fail
    generalize w.alloc (.cells #[.int .i64 W, .int .i64 H, .slice a cs.length cap] 35) = w0 at *
    refine (HP.out _ hat1).mono ?_
    rintro e w1 ⟨rfl, hb1⟩
    have hb2 := hb.trans (hb1.mono hb.size)
    have hG1 := (hb1.block _ (block_lt hG)).trans hG
    have hat2 := hat1.later rfl hb1
    clear hb hb1 hat1 hat hG
    have f0 := cell_of_block hG1 0
    have f1 := cell_of_block hG1 1
    have f2 := cell_of_block hG1 2
    simp at f0 f1 f2
    clear hG1
    go_wp2_with fail
    refine (HA.out _ hat2).mono ?_
    rintro e w2 ⟨rfl, hb3⟩
    have hb4 := hb2.trans (hb3.mono hb2.size)
    clear hb2 hb3 hat2 f0 f1 f2
    go_wp2_with fail
    go_ret2
    exact ⟨by rw [HN.out]; rfl, hb4⟩
set_option maxRecDepth 100000 in
set_option maxHeartbeats 1600000 in
theorem iSolved_any (x y : Int) (a : Option Addr) (n cap : Nat) (cs : List Clu) (w : World) (hn : n = cs.length) (hat : At w a (flatC cs)) :
    Calls Try.prog 22 #[.agg #[.int .i64 x, .int .i64 y, .slice a n cap]] w fun e w' => e = .returned (.tuple #[.bool (csS x y cs), .bool (pzB x y cs)]) ∧ Below w.heap.size w w' := by
  subst hn
  have hb : Below w.heap.size w (w.alloc (.cells #[.int .i64 x, .int .i64 y, .slice a cs.length cap] 35)) := (Below.refl _ _).alloc (Nat.le_refl _) _
  have hat1 := hat.later rfl hb
  cases h : pzB x y cs with
  | false =>
    have HN := Lib.hid (csS_no h)
    have HR := Lib.hid (fun w hat => readS_no x y a cs.length cap cs w rfl hat h)
    clear h
    go_enter Try.func22, Try.ntmps22
    go_wp2_with fail
    refine (HR.out _ hat1).mono ?_
    rintro e w1 ⟨rfl, hb1⟩
    have hb2 := hb.trans (hb1.mono hb.size)
    clear hb hb1 hat1 hat
    go_wp2_with fail
    go_ret2
    exact ⟨by rw [HN.out]; rfl, hb2.alloc hb2.size _⟩
  | true =>
    obtain ⟨W, H, rfl, rfl, hW, hH, h9, hs, h8, hc⟩ := pz_yes h
    have HN := Lib.hid (csS_yes h)
    have HR := Lib.hid (fun w hat => readS_yes W H a cs.length cap cs w rfl hat h)
    clear h hs hc
    go_enter Try.func22, Try.ntmps22
    go_wp2_with fail
    refine (HR.out _ hat1).mono ?_
    rintro e w1 ⟨v1, u1, rfl, hR1, hO1, hb1⟩
    obtain ⟨a1, c1, hv⟩ := hR1.shape
    subst hv
    obtain ⟨a2, c2, hv⟩ := hO1.shape
    subst hv
    have hb2 := hb.trans (hb1.mono hb.size)
    clear hb hb1 hat1 hat hR1 hO1
    simp only [List.length_map]
    go_wp2_with fail
    go_ret2
    exact ⟨by rw [HN.out]; rfl, hb2.alloc hb2.size _⟩
end Go.Proofs.Ytnnbkbjhombblaa
