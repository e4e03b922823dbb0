/- Puzzles by the model: sizes, clues, puzzles. -/
import Derived.Test.YthlbplmghjaeoaaDoorA6
import Derived.Deep.DeepCutAuto
import Derived.Outline
namespace Go.Proofs.YthlbplmghjaeoaaDoor
open Go.RowKit

set_option maxRecDepth 100000 in
theorem pzSize_any (x y : Int) (wr : World) :
    Calls Tryd.prog 61 #[.int .i64 x, .int .i64 y] wr fun e w' => e = .returned (.bool (hsB x y)) ∧ wr = w' := by
  have h1 := fun wr => l1In_any x 1 8 wr
  have h2 := fun wr => l1In_any y 1 8 wr
  rw [hsB, szB]
  cases e1 : inB x 1 8 with
  | false =>
    rw [e1] at h1
    have H1 := Lib.hid h1
    clear e1 h1 h2
    go_enter Tryd.func61, Tryd.ntmps61
    go_wp2_with fail
    refine (H1.out _).mono ?_
    rintro e w1 ⟨rfl, rfl⟩
    go_wp2_with fail
    go_ret
    exact ⟨rfl, rfl⟩
  | true =>
    rw [e1] at h1
    have H1 := Lib.hid h1
    have b1 := inB_iff.1 e1
    cases e2 : inB y 1 8 with
    | false =>
      rw [e2] at h2
      have H2 := Lib.hid h2
      clear e1 e2 h1 h2 b1
      go_enter Tryd.func61, Tryd.ntmps61
      go_wp2_with fail
      refine (H1.out _).mono ?_
      rintro e w1 ⟨rfl, rfl⟩
      go_wp2_with fail
      refine (H2.out _).mono ?_
      rintro e w1 ⟨rfl, rfl⟩
      go_wp2_with fail
      go_ret
      exact ⟨rfl, rfl⟩
    | true =>
      rw [e2] at h2
      have H2 := Lib.hid h2
      have b2 := inB_iff.1 e2
      obtain ⟨p1, p2⟩ := mulB (a := x) (b := y) ⟨by omega, by omega⟩ ⟨by omega, by omega⟩
      have wr1 : IntKind.i64.wrap (x * y) = x * y := IntWalk.i64_in _ ⟨by omega, by omega⟩
      have wr2 : wrap64 (x * y) = x * y := IntWalk.wrap64_in _ ⟨by omega, by omega⟩
      clear e1 e2 h1 h2 b1 b2
      by_cases h12 : x * y ≤ 9
      · go_enter Tryd.func61, Tryd.ntmps61
        go_wp2_with fail
        refine (H1.out _).mono ?_
        rintro e w1 ⟨rfl, rfl⟩
        go_wp2_with fail
        refine (H2.out _).mono ?_
        rintro e w1 ⟨rfl, rfl⟩
        go_wp2_with fail
        go_ret
        exact ⟨by simp [h12], rfl⟩
      · go_enter Tryd.func61, Tryd.ntmps61
        go_wp2_with fail
        refine (H1.out _).mono ?_
        rintro e w1 ⟨rfl, rfl⟩
        go_wp2_with fail
        refine (H2.out _).mono ?_
        rintro e w1 ⟨rfl, rfl⟩
        go_wp2_with fail
        go_ret
        exact ⟨by first | rfl | simp [h12], rfl⟩
set_option maxRecDepth 100000 in
set_option maxHeartbeats 1600000 in
theorem pzClue_any (W H : Nat) (c : Clu) (w : World) (hW : 1 ≤ W ∧ W ≤ 8) (hH : 1 ≤ H ∧ H ≤ 8) :
    Calls Tryd.prog 32 #[.int .i64 W, .int .i64 H, valC c] w fun e w' => e = .returned (.bool (cluB W H c)) ∧ Below w.heap.size w w' := by
  obtain ⟨p1, p2⟩ := mulN hW hH
  have wr1 : IntKind.i64.wrap ((W : Int) * (H : Int)) = ((W * H : Nat) : Int) := by rw [← Int.natCast_mul]; exact IntWalk.i64_in _ ⟨by omega, by omega⟩
  have wr2 : wrap64 ((W : Int) * (H : Int)) = ((W * H : Nat) : Int) := by rw [← Int.natCast_mul]; exact IntWalk.wrap64_in _ ⟨by omega, by omega⟩
  have HL := Lib.hid (fun n lo hi w => l1In_any n lo hi w)
  obtain ⟨k, ca, cb⟩ := c
  unfold valC cluB limC
  simp only
  have hb : Below w.heap.size w (w.alloc (.cells #[.int .i64 k, .int .i64 ca, .int .i64 cb] 26)) := (Below.refl _ _).alloc (Nat.le_refl _) _
  by_cases k0 : k = 0
  · subst k0
    have h1 := HL.out ca 0 ((W * H : Nat) - 1)
    have h2 := HL.out cb 0 1
    simp only [if_true]
    cases e1 : inB ca 0 ((W * H : Nat) - 1) with
    | false =>
      rw [e1] at h1
      have H1 := Lib.hid h1
      clear e1 h1 h2
      go_enter Tryd.func32, Tryd.ntmps32
      go_wp2_with fail
      refine (H1.out _).mono ?_
      rintro e w1 ⟨rfl, rfl⟩
      go_wp2_with fail
      go_ret
      exact ⟨rfl, hb⟩
    | true =>
      rw [e1] at h1
      have H1 := Lib.hid h1
      have H2 := Lib.hid h2
      clear e1 h1 h2
      go_enter Tryd.func32, Tryd.ntmps32
      go_wp2_with fail
      refine (H1.out _).mono ?_
      rintro e w1 ⟨rfl, rfl⟩
      go_wp2_with fail
      refine (H2.out _).mono ?_
      rintro e w1 ⟨rfl, rfl⟩
      go_wp2_with fail
      go_ret
      exact ⟨rfl, hb⟩
  by_cases k1 : k = 1
  · subst k1
    have h1 := HL.out ca 0 ((W * H : Nat) : Int)
    simp only [if_neg (show ¬ (1 : Int) = 0 by decide), if_true]
    cases e1 : inB ca 0 ((W * H : Nat) : Int) with
    | false =>
      rw [e1] at h1
      have H1 := Lib.hid h1
      clear e1 h1
      go_enter Tryd.func32, Tryd.ntmps32
      go_wp2_with fail
      refine (H1.out _).mono ?_
      rintro e w1 ⟨rfl, rfl⟩
      go_wp2_with fail
      go_ret
      exact ⟨rfl, hb⟩
    | true =>
      rw [e1] at h1
      have H1 := Lib.hid h1
      have HZ : Hid ((cb == 0) = inB cb 0 0) := by
        rw [Hid, Bool.eq_iff_iff, inB_iff, beq_iff_eq]; omega
      clear e1 h1
      go_enter Tryd.func32, Tryd.ntmps32
      go_wp2_with fail
      refine (H1.out _).mono ?_
      rintro e w1 ⟨rfl, rfl⟩
      go_wp2_with fail
      go_ret
      exact ⟨by rw [← HZ.out]; rfl, hb⟩
  by_cases k2 : k = 2
  · subst k2
    have h1 := HL.out ca 0 ((W * H : Nat) - 1)
    have h2 := HL.out cb 0 8
    simp only [if_neg (show ¬ (2 : Int) = 0 by decide), if_neg (show ¬ (2 : Int) = 1 by decide), if_true]
    cases e1 : inB ca 0 ((W * H : Nat) - 1) with
    | false =>
      rw [e1] at h1
      have H1 := Lib.hid h1
      clear e1 h1 h2
      go_enter Tryd.func32, Tryd.ntmps32
      go_wp2_with fail
      refine (H1.out _).mono ?_
      rintro e w1 ⟨rfl, rfl⟩
      go_wp2_with fail
      go_ret
      exact ⟨rfl, hb⟩
    | true =>
      rw [e1] at h1
      have H1 := Lib.hid h1
      have H2 := Lib.hid h2
      clear e1 h1 h2
      go_enter Tryd.func32, Tryd.ntmps32
      go_wp2_with fail
      refine (H1.out _).mono ?_
      rintro e w1 ⟨rfl, rfl⟩
      go_wp2_with fail
      refine (H2.out _).mono ?_
      rintro e w1 ⟨rfl, rfl⟩
      go_wp2_with fail
      go_ret
      exact ⟨rfl, hb⟩
  by_cases k3 : k = 3
  · subst k3
    have h1 := HL.out ca 0 ((H : Nat) - 1)
    have h2 := HL.out cb 0 8
    simp only [if_neg (show ¬ (3 : Int) = 0 by decide), if_neg (show ¬ (3 : Int) = 1 by decide), if_neg (show ¬ (3 : Int) = 2 by decide), if_true]
    cases e1 : inB ca 0 ((H : Nat) - 1) with
    | false =>
      rw [e1] at h1
      have H1 := Lib.hid h1
      clear e1 h1 h2
      go_enter Tryd.func32, Tryd.ntmps32
      go_wp2_with fail
      refine (H1.out _).mono ?_
      rintro e w1 ⟨rfl, rfl⟩
      go_wp2_with fail
      go_ret
      exact ⟨rfl, hb⟩
    | true =>
      rw [e1] at h1
      have H1 := Lib.hid h1
      have H2 := Lib.hid h2
      clear e1 h1 h2
      go_enter Tryd.func32, Tryd.ntmps32
      go_wp2_with fail
      refine (H1.out _).mono ?_
      rintro e w1 ⟨rfl, rfl⟩
      go_wp2_with fail
      refine (H2.out _).mono ?_
      rintro e w1 ⟨rfl, rfl⟩
      go_wp2_with fail
      go_ret
      exact ⟨rfl, hb⟩
  by_cases k4 : k = 4
  · subst k4
    have h1 := HL.out ca 0 ((W : Nat) - 1)
    have h2 := HL.out cb 0 8
    simp only [if_neg (show ¬ (4 : Int) = 0 by decide), if_neg (show ¬ (4 : Int) = 1 by decide), if_neg (show ¬ (4 : Int) = 2 by decide), if_neg (show ¬ (4 : Int) = 3 by decide), if_true]
    cases e1 : inB ca 0 ((W : Nat) - 1) with
    | false =>
      rw [e1] at h1
      have H1 := Lib.hid h1
      clear e1 h1 h2
      go_enter Tryd.func32, Tryd.ntmps32
      go_wp2_with fail
      refine (H1.out _).mono ?_
      rintro e w1 ⟨rfl, rfl⟩
      go_wp2_with fail
      go_ret
      exact ⟨rfl, hb⟩
    | true =>
      rw [e1] at h1
      have H1 := Lib.hid h1
      have H2 := Lib.hid h2
      clear e1 h1 h2
      go_enter Tryd.func32, Tryd.ntmps32
      go_wp2_with fail
      refine (H1.out _).mono ?_
      rintro e w1 ⟨rfl, rfl⟩
      go_wp2_with fail
      refine (H2.out _).mono ?_
      rintro e w1 ⟨rfl, rfl⟩
      go_wp2_with fail
      go_ret
      exact ⟨rfl, hb⟩
  by_cases k5 : k = 5
  · subst k5
    have h1 := HL.out ca 0 100
    simp only [if_neg (show ¬ (5 : Int) = 0 by decide), if_neg (show ¬ (5 : Int) = 1 by decide), if_neg (show ¬ (5 : Int) = 2 by decide), if_neg (show ¬ (5 : Int) = 3 by decide), if_neg (show ¬ (5 : Int) = 4 by decide), if_true]
    cases e1 : inB ca 0 100 with
    | false =>
      rw [e1] at h1
      have H1 := Lib.hid h1
      clear e1 h1
      go_enter Tryd.func32, Tryd.ntmps32
      go_wp2_with fail
      refine (H1.out _).mono ?_
      rintro e w1 ⟨rfl, rfl⟩
      go_wp2_with fail
      go_ret
      exact ⟨rfl, hb⟩
    | true =>
      rw [e1] at h1
      have H1 := Lib.hid h1
      have HZ : Hid ((cb == 0) = inB cb 0 0) := by
        rw [Hid, Bool.eq_iff_iff, inB_iff, beq_iff_eq]; omega
      clear e1 h1
      go_enter Tryd.func32, Tryd.ntmps32
      go_wp2_with fail
      refine (H1.out _).mono ?_
      rintro e w1 ⟨rfl, rfl⟩
      go_wp2_with fail
      go_ret
      exact ⟨by rw [← HZ.out]; rfl, hb⟩
  simp only [if_neg k0, if_neg k1, if_neg k2, if_neg k3, if_neg k4, if_neg k5]
  have d0 : (k == 0) = false := by simpa using k0
  have d1 : (k == 1) = false := by simpa using k1
  have d2 : (k == 2) = false := by simpa using k2
  have d3 : (k == 3) = false := by simpa using k3
  have d4 : (k == 4) = false := by simpa using k4
  have d5 : (k == 5) = false := by simpa using k5
  clear k0 k1 k2 k3 k4 k5
  go_enter Tryd.func32, Tryd.ntmps32
  go_wp2_with fail
  go_ret
  exact ⟨rfl, hb⟩
set_option maxRecDepth 100000 in
set_option maxHeartbeats 1600000 in
theorem pzGood_any (x y : Int) (a : Option Addr) (n cap : Nat) (cs : List Clu) (w : World) (hn : n = cs.length) (hat : At w a (flatC cs)) :
    Calls Tryd.prog 48 #[.agg #[.int .i64 x, .int .i64 y, .slice a n cap]] w fun e w' => e = .returned (.bool (pzB x y cs)) ∧ Below w.heap.size w w' := by
  subst hn
  have hb : Below w.heap.size w (w.alloc (.cells #[.int .i64 x, .int .i64 y, .slice a cs.length cap] 31)) := (Below.refl _ _).alloc (Nat.le_refl _) _
  have h1 := fun w => pzSize_any x y w
  rcases sz_case x y 9 with hs | ⟨hs, W, H, rfl, rfl, a1, a2, a3, a4, a5⟩
  · have hp : Hid (pzB x y cs = false) := by simp [Hid, pzB, hsB, hs]
    rw [show hsB x y = false from hs] at h1
    have H1 := Lib.hid h1
    clear h1 hs
    go_enter Tryd.func48, Tryd.ntmps48
    go_wp2_with fail
    refine (H1.out _).mono ?_
    rintro e w1 ⟨rfl, rfl⟩
    go_wp2_with fail
    go_ret
    exact ⟨by rw [hp.out]; rfl, hb⟩
  · rw [show hsB (W : Int) (H : Int) = true from hs] at h1
    have H1 := Lib.hid h1
    have HG := heap_alloc_new w (.cells #[.int .i64 W, .int .i64 H, .slice a cs.length cap] 31)
    by_cases h8 : 8 < cs.length
    · have hp : Hid (pzB W H cs = false) := by simp [Hid, pzB]; omega
      clear h1 hs HG
      go_enter Tryd.func48, Tryd.ntmps48
      go_wp2_with fail
      refine (H1.out _).mono ?_
      rintro e w1 ⟨rfl, rfl⟩
      go_wp2_with fail
      go_ret
      exact ⟨by rw [hp.out]; rfl, hb⟩
    · have hp : Hid (pzB W H cs = cs.all (cluB W H)) := by simp [Hid, pzB, hsB, hs]; omega
      have HC := Lib.hid (fun c w => pzClue_any W H c w ⟨a1, a2⟩ ⟨a3, a4⟩)
      unfold valC at HC
      have HAT := Lib.hid hat
      have HG0 := Lib.hid HG
      clear h1 hs hat HG
      go_enter Tryd.func48, Tryd.ntmps48
      go_wp2_with fail
      refine (H1.out _).mono ?_
      rintro e w1 ⟨rfl, rfl⟩
      go_wp2_with fail
      generalize w.alloc (.cells #[.int .i64 W, .int .i64 H, .slice a cs.length cap] 31) = w0 at *
      go_loopw [20] (fun i wr => ∃ k : Nat, k ≤ cs.length ∧ i = .int .i64 k ∧ (∀ c ∈ cs.take k, cluB W H c = true) ∧ Below w0.heap.size w0 wr) (fun i _ => cs.length - (intOf i).toNat)
      case atStart => exact ⟨0, Nat.zero_le _, rfl, by simp, Below.refl _ _⟩
      case round =>
        obtain ⟨k, hk, rfl, hgood, hbr⟩ := hrel
        have hb2 := hb.trans (hbr.mono hb.size)
        have hGr := (hbr.block _ (block_lt HG0.out)).trans HG0.out
        have f0 := cell_of_block hGr 0
        have f1 := cell_of_block hGr 1
        have f2 := cell_of_block hGr 2
        simp at f0 f1 f2
        by_cases hlt : k < cs.length
        · obtain ⟨g, off, rfl, hgl, q0, q1, q2⟩ := clu_at (HAT.out.later rfl hb2) k hlt
          have hGD : Hid (cluB W H cs[k] = true → ∀ c ∈ cs.take (k + 1), cluB W H c = true) := fun h c hx => by
            rw [List.take_succ_eq_append_getElem hlt, List.mem_append, List.mem_singleton] at hx
            rcases hx with hx | rfl
            · exact hgood c hx
            · exact h
          have hBD : Hid (cluB W H cs[k] = false → cs.all (cluB W H) = false) := fun h => List.all_eq_false.2 ⟨cs[k], List.getElem_mem hlt, by simp [h]⟩
          generalize cs[k] = c at *
          have hb3 := hb2.alloc hb2.size (.cells #[.int .i64 c.k, .int .i64 c.a, .int .i64 c.b] 26)
          have hbr3 := hbr.alloc hbr.size (.cells #[.int .i64 c.k, .int .i64 c.a, .int .i64 c.b] 26)
          go_upto_region 6 with fail
          have hG3 : (wr.alloc (.cells #[.int .i64 c.k, .int .i64 c.a, .int .i64 c.b] 26)).heap[w.heap.size]? = some (.cells #[.int .i64 W, .int .i64 H, .slice (some ⟨g, off, none⟩) cs.length cap] 31 (0, 0)) := by rw [Below.heap_alloc _ _ _ (block_lt hGr)]; exact hGr
          have hC3 : (wr.alloc (.cells #[.int .i64 c.k, .int .i64 c.a, .int .i64 c.b] 26)).heap[wr.heap.size]? = some (.cells #[.int .i64 c.k, .int .i64 c.a, .int .i64 c.b] 26 (0, 0)) := heap_alloc_new wr _
          clear hGr f0 f1 f2 q0 q1 q2 hb2 hbr
          generalize wr.alloc (.cells #[.int .i64 c.k, .int .i64 c.a, .int .i64 c.b] 26) = w3 at *
          have f0 := cell_of_block hG3 0
          have f1 := cell_of_block hG3 1
          have f2 := cell_of_block hG3 2
          have q0 := cell_of_block hC3 0
          have q1 := cell_of_block hC3 1
          have q2 := cell_of_block hC3 2
          simp at f0 f1 f2 q0 q1 q2
          clear hG3 hC3
          go_wp2_with fail
          refine (HC.out c _).mono ?_
          rintro e w2 ⟨rfl, hb4⟩
          have hb5 := hb3.trans (hb4.mono hb3.size)
          have hbr5 := hbr3.trans (hb4.mono hbr3.size)
          clear f0 f1 f2 q0 q1 q2 hb4 hb3 hbr3
          cases hck : cluB W H c with
          | true =>
            rw [hck] at hGD hBD
            clear hck
            go_wp2_with fail
            go_roundw
            case rel => exact ⟨k + 1, by omega, by go_num, hGD.out (by simp), hbr5⟩
            case measure => simp [intOf]; omega
          | false =>
            rw [hck] at hGD hBD
            clear hck
            go_wp2_with fail
            go_ret
            exact ⟨by rw [hp.out, hBD.out (by simp)]; rfl, hb5⟩
        · obtain rfl : k = cs.length := by omega
          rw [List.take_length] at hgood
          have hA : Hid (cs.all (cluB W H) = true) := List.all_eq_true.2 hgood
          clear hGr hgood
          go_wp2_with fail
          go_ret
          exact ⟨by rw [hp.out, hA.out]; rfl, hb2⟩
end Go.Proofs.YthlbplmghjaeoaaDoor
