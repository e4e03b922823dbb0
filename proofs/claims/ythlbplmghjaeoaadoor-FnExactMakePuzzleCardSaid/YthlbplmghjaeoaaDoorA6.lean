/- Puzzles by the program: a puzzle is read. -/
import Derived.Test.YthlbplmghjaeoaaDoorA5
import Derived.BigQuiet
import Derived.Deep.MidRow
import Derived.Deep.RegionHeld
import Derived.Outline
namespace Go.Proofs.YthlbplmghjaeoaaDoor
open Go.RowKit

/-- Is there a puzzle? -/
def pzB (x y : Int) (cs : List Clu) : Bool := hsB x y && (decide (cs.length ≤ 8) && cs.all (cluB x.toNat y.toNat))
set_option maxRecDepth 100000 in
set_option maxHeartbeats 800000 in
theorem readP_size (x y : Int) (a : Option Addr) (n cap : Nat) (w : World) (hs : hsB x y = false) :
    Calls Tryd.prog 35 #[.agg #[.int .i64 x, .int .i64 y, .slice a n cap]] w fun e w' => e = .returned (.tuple #[.agg #[.int .i64 0, .int .i64 0, .slice none 0 0], .bool false]) ∧ Below w.heap.size w w' := by
  have h1 := fun w => isHidden_any x y w
  rw [hs] at h1
  have H1 := Lib.hid h1
  have hb : Below w.heap.size w ((w.alloc (.cells #[.int .i64 x, .int .i64 y, .slice a n cap] 31)).alloc (.cells #[.int .i64 0, .int .i64 0, .slice none 0 0] 31)) := ((Below.refl _ _).alloc (Nat.le_refl _) _).alloc (by simp) _
  clear h1 hs
  go_enter_defers Tryd.func35, Tryd.ntmps35
  go_wp2_with fail
  refine (H1.out _).mono ?_
  rintro e w1 ⟨rfl, rfl⟩
  go_wp2_with fail
  simp [Leaves, results, Tryd.results35, go_sem, bodyPostD]
  exact hb
set_option maxRecDepth 100000 in
set_option maxHeartbeats 800000 in
theorem readP_long (x y : Int) (a : Option Addr) (n cap : Nat) (w : World) (hs : hsB x y = true) (hn : 8 < n) :
    Calls Tryd.prog 35 #[.agg #[.int .i64 x, .int .i64 y, .slice a n cap]] w fun e w' => e = .returned (.tuple #[.agg #[.int .i64 0, .int .i64 0, .slice none 0 0], .bool false]) ∧ Below w.heap.size w w' := by
  have h1 := fun w => isHidden_any x y w
  rw [hs] at h1
  have H1 := Lib.hid h1
  have hb : Below w.heap.size w ((w.alloc (.cells #[.int .i64 x, .int .i64 y, .slice a n cap] 31)).alloc (.cells #[.int .i64 0, .int .i64 0, .slice none 0 0] 31)) := ((Below.refl _ _).alloc (Nat.le_refl _) _).alloc (by simp) _
  clear h1 hs
  go_enter_defers Tryd.func35, Tryd.ntmps35
  go_wp2_with fail
  refine (H1.out _).mono ?_
  rintro e w1 ⟨rfl, rfl⟩
  go_wp2_with fail
  simp [Leaves, results, Tryd.results35, go_sem, bodyPostD]
  exact hb
set_option maxRecDepth 100000 in
set_option maxHeartbeats 1600000 in
theorem readP_yes (W H : Nat) (a : Option Addr) (n cap : Nat) (cs : List Clu) (w : World) (hW : 1 ≤ W ∧ W ≤ 8) (hH : 1 ≤ H ∧ H ≤ 8) (hs : hsB W H = true) (hn : n = cs.length) (h8 : cs.length ≤ 8) (hc : ∀ c ∈ cs, cluB W H c = true) (hat : At w a (flatC cs)) :
    Calls Tryd.prog 35 #[.agg #[.int .i64 W, .int .i64 H, .slice a n cap]] w fun e w' => ∃ v, e = .returned (.tuple #[.agg #[.int .i64 W, .int .i64 H, v], .bool true]) ∧ RowC w' w.heap.size v cs ∧ Below w.heap.size w w' := by
  subst hn
  have h1 := fun w => isHidden_any W H w
  rw [hs] at h1
  have H1 := Lib.hid h1
  have hmf : ∀ (fn : Fn) (first cap : Array Value) (w : World), (Instr.makeFunc fn first cap).run Tryd.prog w = .ok (.func fn first cap) w := fun _ _ _ _ => rfl
  have hb : Below w.heap.size w ((w.alloc (.cells #[.int .i64 W, .int .i64 H, .slice a cs.length cap] 31)).alloc (.cells #[.int .i64 0, .int .i64 0, .slice none 0 0] 31)) := ((Below.refl _ _).alloc (Nat.le_refl _) _).alloc (by simp) _
  clear h1 hs
  go_enter_defers Tryd.func35, Tryd.ntmps35
  go_wp2_with fail
  refine (H1.out _).mono ?_
  rintro e w1 ⟨rfl, rfl⟩
  go_wp2_with fail
  obtain ⟨hG, hE⟩ : ((w.alloc (.cells #[.int .i64 W, .int .i64 H, .slice a cs.length cap] 31)).alloc (.cells #[.int .i64 W, .int .i64 H, .slice none 0 0] 31)).heap[w.heap.size]? = some (.cells #[.int .i64 W, .int .i64 H, .slice a cs.length cap] 31 (0, 0)) ∧ ((w.alloc (.cells #[.int .i64 W, .int .i64 H, .slice a cs.length cap] 31)).alloc (.cells #[.int .i64 W, .int .i64 H, .slice none 0 0] 31)).heap[w.heap.size + 1]? = some (.cells #[.int .i64 W, .int .i64 H, .slice none 0 0] 31 (0, 0)) := ⟨blk0 _ _ _, blk1 _ _ _⟩
  have hb1 : Below w.heap.size w ((w.alloc (.cells #[.int .i64 W, .int .i64 H, .slice a cs.length cap] 31)).alloc (.cells #[.int .i64 W, .int .i64 H, .slice none 0 0] 31)) := ((Below.refl _ _).alloc (Nat.le_refl _) _).alloc (by simp) _
  clear hb
  generalize (w.alloc (.cells #[.int .i64 W, .int .i64 H, .slice a cs.length cap] 31)).alloc (.cells #[.int .i64 W, .int .i64 H, .slice none 0 0] 31) = w1 at *
  have hE1 := Lib.hid hE
  have HAT := Lib.hid hat
  have hR1 : RowC w1 w.heap.size (.slice none 0 0) (cs.take 0) := RowC.nil _ _
  clear hG hE hat
  have HC := Lib.hid (fun (W' : Nat) n' cap' a' c (w' : World) h => checked_yes W H n' cap' a' c w' hW hH h)
  unfold valC at HC
  have HWT := Lib.hid (fun B n' cap' a' (ds : List Clu) ms b m c (w' : World) hR hm hat hB hl => with_any (W : Int) (H : Int) B n' cap' a' ds ms b m c w' hR hm hat hB hl)
  go_loopw [28] (fun i wr => ∃ k : Nat, k ≤ cs.length ∧ i = .int .i64 k ∧ (∃ v, RowC wr w.heap.size v (cs.take k) ∧ Hid (wr.heap[w.heap.size + 1]? = some (.cells #[.int .i64 W, .int .i64 H, v] 31 (0, 0)))) ∧ Below w.heap.size w wr) (fun i _ => cs.length - (intOf i).toNat)
  case atStart => exact ⟨0, Nat.zero_le _, rfl, ⟨_, hR1, hE1⟩, hb1⟩
  case round =>
    clear hR1 hE1 hb1
    obtain ⟨k, hk, rfl, ⟨v, hR, hE⟩, hb⟩ := hrel
    by_cases hlt : k < cs.length
    · obtain ⟨g, off, rfl, hgl, q0, q1, q2⟩ := clu_at (HAT.out.later rfl hb) k hlt
      have hck := hc cs[k] (List.getElem_mem hlt)
      have hTK : Hid (cs.take k ++ [cs[k]] = cs.take (k + 1)) := (List.take_succ_eq_append_getElem hlt).symm
      have hkl : (cs.take k).length = k := by rw [List.length_take]; omega
      generalize cs[k] = c at *
      go_wp2_with fail
      obtain ⟨a2, cap2, hv⟩ := hR.shape
      rw [hkl] at hv
      subst hv
      have hb2 : Below wr.heap.size wr (wr.alloc (.cells #[.int .i64 c.k, .int .i64 c.a, .int .i64 c.b] 26)) := (Below.refl _ _).alloc (Nat.le_refl _) _
      have hG2 : (wr.alloc (.cells #[.int .i64 c.k, .int .i64 c.a, .int .i64 c.b] 26)).heap[wr.heap.size]? = some (.cells #[.int .i64 c.k, .int .i64 c.a, .int .i64 c.b] 26 (0, 0)) := heap_alloc_new wr _
      have hE2 := (hb2.block _ (block_lt hE.out)).trans hE.out
      have hR2 := hR.below hb2
      have hbw := hb.trans (hb2.mono hb.size)
      have hlt2 := block_lt hG2
      clear hR hE hb hb2 q0 q1 q2
      generalize wr.alloc (.cells #[.int .i64 c.k, .int .i64 c.a, .int .i64 c.b] 26) = w2 at *
      generalize wr.heap.size = G at *
      have c0 := cell_of_block hG2 0
      have c1 := cell_of_block hG2 1
      have c2 := cell_of_block hG2 2
      have z0 := cell_of_block hE2 0
      have z1 := cell_of_block hE2 1
      have z2 := cell_of_block hE2 2
      simp at c0 c1 c2 z0 z1 z2
      have HE2 := Lib.hid hE2
      have HR2 := Lib.hid hR2
      have HB2 := Lib.hid hbw
      clear hE2 hG2 hR2 hbw
      have HCK := Lib.hid hck
      clear hck
      go_region_law (first
        | (go_simp; go_at_call 67; refine (HC.out 0 _ _ _ c _ HCK.out).mono ?_; rintro e w3 ⟨rfl, hb3⟩; 
           have HE3 := Lib.hid ((hb3.block _ (block_lt HE2.out)).trans HE2.out);
           have y0 := cell_of_block HE3.out 0; have y1 := cell_of_block HE3.out 1; have y2 := cell_of_block HE3.out 2; simp at y0 y1 y2;
           have HB4 := Lib.hid ((Below.refl w3.heap.size w3).alloc (Nat.le_refl _) (.cells #[.int .i64 c.k, .int .i64 c.a, .int .i64 c.b] 26));
           have HB3 := Lib.hid (ofDrewC hb3);
           have HE4 := Lib.hid ((HB4.out.block _ (block_lt HE3.out)).trans HE3.out);
           have HA4 := Lib.hid (at_clue w3 c 26);
           have HR4 := Lib.hid ((HR2.out.below HB3.out).below HB4.out);
           have x0 := cell_of_block HE4.out 0; have x1 := cell_of_block HE4.out 1; have x2 := cell_of_block HE4.out 2; simp at x0 x1 x2; clear hb3)
        | (go_simp; go_at_call 42; refine (HWT.out w.heap.size _ _ _ (cs.take k) [c] _ _ _ _ HR4.out rfl HA4.out (by have := HB2.out.size; have := HB3.out.size; have := HB4.out.size; omega) (by rw [hkl]; simp; omega)).mono ?_; rintro e w5 ⟨v5, rfl, hR5, hb5⟩;
           have HE5 := Lib.hid ((hb5.block _ (block_lt HE4.out)).trans HE4.out);
           obtain ⟨a5, c5, hv5⟩ := hR5.shape; subst hv5; 
           have t0 := cell_of_block HE5.out 0; have t1 := cell_of_block HE5.out 1; have t2 := cell_of_block HE5.out 2; have tf := frozen_of_block HE5.out; simp at t0 t1 t2))
      all_goals
        have hkl1 : (cs.take (k + 1)).length = k + 1 := by rw [List.length_take]; omega
        rw [hTK.out, hkl1] at hR5
        have hs2 := HB2.out.size
        have hb25 : Below w2.heap.size w2 w5 := (HB3.out.trans (HB4.out.mono HB3.out.size)).trans (hb5.mono (Nat.le_trans HB3.out.size HB4.out.size))
        obtain ⟨hE6, hb6⟩ := puzzle_stored (B := w.heap.size) HE5.out (Nat.le_succ _) (.int .i64 W) (.int .i64 H) (.slice a5 (k + 1) c5)
        have hR6 := hR5.put3 (x := .int .i64 W) (y := .int .i64 H) (z := .slice a5 (k + 1) c5) HE5.out
        have hb7 := (HB2.out.trans (hb25.mono HB2.out.size)).trans hb6
        go_wp2_with fail
        go_roundw
        case rel => exact ⟨k + 1, by omega, by go_num, ⟨_, hR6, hE6⟩, hb7⟩
        case measure => simp [intOf]; omega
    · obtain rfl : k = cs.length := by omega
      rw [List.take_length] at hR
      obtain ⟨a2, cap2, hv⟩ := hR.shape
      subst hv
      have z0 := cell_of_block hE.out 0
      have z1 := cell_of_block hE.out 1
      have z2 := cell_of_block hE.out 2
      have zf := frozen_of_block hE.out
      simp at z0 z1 z2
      go_wp2_with fail
      refine leaves_cons (f := 66) (args := #[.pointer (some ⟨w.heap.size + 1, 0, none⟩)]) (by simp) (by simp [go_sem]) ?_
      refine (catch_idleP _ _).mono ?_
      rintro e u' w'' ⟨rfl, rfl, hb3⟩
      obtain ⟨hE6, hb6⟩ := puzzle_stored (B := w.heap.size) hE.out (Nat.le_succ _) (.int .i64 W) (.int .i64 H) (.slice a2 cs.length cap2)
      have hR6 := hR.put3 (x := .int .i64 W) (y := .int .i64 H) (z := .slice a2 cs.length cap2) hE.out
      have hE9 := (hb3.block _ (block_lt hE6)).trans hE6
      have p0 := cell_of_block hE9 0
      have p1 := cell_of_block hE9 1
      have p2 := cell_of_block hE9 2
      simp at p0 p1 p2
      simp [Leaves, settle, results, Tryd.results35, go_sem, p0, p1, p2]
      have hb9 := hb.trans hb6
      exact ⟨hR6.below hb3, hb9.trans (hb3.mono hb9.size)⟩
set_option maxRecDepth 100000 in
set_option maxHeartbeats 1600000 in
theorem readP_bad (W H : Nat) (a : Option Addr) (n cap : Nat) (cs : List Clu) (w : World) (hW : 1 ≤ W ∧ W ≤ 8) (hH : 1 ≤ H ∧ H ≤ 8) (hs : hsB W H = true) (hn : n = cs.length) (h8 : cs.length ≤ 8) (hc : ∃ c ∈ cs, cluB W H c = false) (hat : At w a (flatC cs)) :
    Calls Tryd.prog 35 #[.agg #[.int .i64 W, .int .i64 H, .slice a n cap]] w fun e w' => e = .returned (.tuple #[.agg #[.int .i64 0, .int .i64 0, .slice none 0 0], .bool false]) ∧ Below w.heap.size w w' := by
  subst hn
  have h1 := fun w => isHidden_any W H w
  rw [hs] at h1
  have H1 := Lib.hid h1
  have hmf : ∀ (fn : Fn) (first cap : Array Value) (w : World), (Instr.makeFunc fn first cap).run Tryd.prog w = .ok (.func fn first cap) w := fun _ _ _ _ => rfl
  have hb : Below w.heap.size w ((w.alloc (.cells #[.int .i64 W, .int .i64 H, .slice a cs.length cap] 31)).alloc (.cells #[.int .i64 0, .int .i64 0, .slice none 0 0] 31)) := ((Below.refl _ _).alloc (Nat.le_refl _) _).alloc (by simp) _
  clear h1 hs
  go_enter_defers Tryd.func35, Tryd.ntmps35
  go_wp2_with fail
  refine (H1.out _).mono ?_
  rintro e w1 ⟨rfl, rfl⟩
  go_wp2_with fail
  obtain ⟨hG, hE⟩ : ((w.alloc (.cells #[.int .i64 W, .int .i64 H, .slice a cs.length cap] 31)).alloc (.cells #[.int .i64 W, .int .i64 H, .slice none 0 0] 31)).heap[w.heap.size]? = some (.cells #[.int .i64 W, .int .i64 H, .slice a cs.length cap] 31 (0, 0)) ∧ ((w.alloc (.cells #[.int .i64 W, .int .i64 H, .slice a cs.length cap] 31)).alloc (.cells #[.int .i64 W, .int .i64 H, .slice none 0 0] 31)).heap[w.heap.size + 1]? = some (.cells #[.int .i64 W, .int .i64 H, .slice none 0 0] 31 (0, 0)) := ⟨blk0 _ _ _, blk1 _ _ _⟩
  have hb1 : Below w.heap.size w ((w.alloc (.cells #[.int .i64 W, .int .i64 H, .slice a cs.length cap] 31)).alloc (.cells #[.int .i64 W, .int .i64 H, .slice none 0 0] 31)) := ((Below.refl _ _).alloc (Nat.le_refl _) _).alloc (by simp) _
  clear hb
  generalize (w.alloc (.cells #[.int .i64 W, .int .i64 H, .slice a cs.length cap] 31)).alloc (.cells #[.int .i64 W, .int .i64 H, .slice none 0 0] 31) = w1 at *
  have hE1 := Lib.hid hE
  have HAT := Lib.hid hat
  have hR1 : RowC w1 w.heap.size (.slice none 0 0) (cs.take 0) := RowC.nil _ _
  clear hG hE hat
  have HC := Lib.hid (fun (W' : Nat) n' cap' a' c (w' : World) h => checked_yes W H n' cap' a' c w' hW hH h)
  have HC0 := Lib.hid (fun (W' : Nat) n' cap' a' c (w' : World) h => checked_no W H n' cap' a' c w' hW hH h)
  unfold valC at HC HC0
  have HWT := Lib.hid (fun B n' cap' a' (ds : List Clu) ms b m c (w' : World) hR hm hat hB hl => with_any (W : Int) (H : Int) B n' cap' a' ds ms b m c w' hR hm hat hB hl)
  go_loopw [28] (fun i wr => ∃ k : Nat, k ≤ cs.length ∧ i = .int .i64 k ∧ (∀ c ∈ cs.take k, cluB W H c = true) ∧ (∃ v, RowC wr w.heap.size v (cs.take k) ∧ Hid (wr.heap[w.heap.size + 1]? = some (.cells #[.int .i64 W, .int .i64 H, v] 31 (0, 0)))) ∧ Below w.heap.size w wr) (fun i _ => cs.length - (intOf i).toNat)
  case atStart => exact ⟨0, Nat.zero_le _, rfl, by simp, ⟨_, hR1, hE1⟩, hb1⟩
  case round =>
    clear hR1 hE1 hb1
    obtain ⟨k, hk, rfl, hgood, ⟨v, hR, hE⟩, hb⟩ := hrel
    by_cases hlt : k < cs.length
    · obtain ⟨g, off, rfl, hgl, q0, q1, q2⟩ := clu_at (HAT.out.later rfl hb) k hlt
      have hGD : Hid (cluB W H cs[k] = true → ∀ c ∈ cs.take (k + 1), cluB W H c = true) := fun h c hx => by
        rw [List.take_succ_eq_append_getElem hlt, List.mem_append, List.mem_singleton] at hx
        rcases hx with hx | rfl
        · exact hgood c hx
        · exact h
      have hTK : Hid (cs.take k ++ [cs[k]] = cs.take (k + 1)) := (List.take_succ_eq_append_getElem hlt).symm
      have hkl : (cs.take k).length = k := by rw [List.length_take]; omega
      generalize cs[k] = c at *
      go_wp2_with fail
      obtain ⟨a2, cap2, hv⟩ := hR.shape
      rw [hkl] at hv
      subst hv
      have hb2 : Below wr.heap.size wr (wr.alloc (.cells #[.int .i64 c.k, .int .i64 c.a, .int .i64 c.b] 26)) := (Below.refl _ _).alloc (Nat.le_refl _) _
      have hG2 : (wr.alloc (.cells #[.int .i64 c.k, .int .i64 c.a, .int .i64 c.b] 26)).heap[wr.heap.size]? = some (.cells #[.int .i64 c.k, .int .i64 c.a, .int .i64 c.b] 26 (0, 0)) := heap_alloc_new wr _
      have hE2 := (hb2.block _ (block_lt hE.out)).trans hE.out
      have hR2 := hR.below hb2
      have hbw := hb.trans (hb2.mono hb.size)
      have hlt2 := block_lt hG2
      clear hR hE hb hb2 q0 q1 q2
      generalize wr.alloc (.cells #[.int .i64 c.k, .int .i64 c.a, .int .i64 c.b] 26) = w2 at *
      generalize wr.heap.size = G at *
      have c0 := cell_of_block hG2 0
      have c1 := cell_of_block hG2 1
      have c2 := cell_of_block hG2 2
      have z0 := cell_of_block hE2 0
      have z1 := cell_of_block hE2 1
      have z2 := cell_of_block hE2 2
      simp at c0 c1 c2 z0 z1 z2
      have HE2 := Lib.hid hE2
      have HR2 := Lib.hid hR2
      have HB2 := Lib.hid hbw
      clear hE2 hG2 hR2 hbw
      cases hck : cluB W H c with
      | true =>
        have HCK := Lib.hid hck
        clear hck
        go_region_law (first
          | (go_simp; go_at_call 67; refine (HC.out 0 _ _ _ c _ HCK.out).mono ?_; rintro e w3 ⟨rfl, hb3⟩; 
             have HE3 := Lib.hid ((hb3.block _ (block_lt HE2.out)).trans HE2.out);
             have y0 := cell_of_block HE3.out 0; have y1 := cell_of_block HE3.out 1; have y2 := cell_of_block HE3.out 2; simp at y0 y1 y2;
             have HB4 := Lib.hid ((Below.refl w3.heap.size w3).alloc (Nat.le_refl _) (.cells #[.int .i64 c.k, .int .i64 c.a, .int .i64 c.b] 26));
             have HB3 := Lib.hid (ofDrewC hb3);
             have HE4 := Lib.hid ((HB4.out.block _ (block_lt HE3.out)).trans HE3.out);
             have HA4 := Lib.hid (at_clue w3 c 26);
             have HR4 := Lib.hid ((HR2.out.below HB3.out).below HB4.out);
             have x0 := cell_of_block HE4.out 0; have x1 := cell_of_block HE4.out 1; have x2 := cell_of_block HE4.out 2; simp at x0 x1 x2; clear hb3)
          | (go_simp; go_at_call 42; refine (HWT.out w.heap.size _ _ _ (cs.take k) [c] _ _ _ _ HR4.out rfl HA4.out (by have := HB2.out.size; have := HB3.out.size; have := HB4.out.size; omega) (by rw [hkl]; simp; omega)).mono ?_; rintro e w5 ⟨v5, rfl, hR5, hb5⟩;
             have HE5 := Lib.hid ((hb5.block _ (block_lt HE4.out)).trans HE4.out);
             obtain ⟨a5, c5, hv5⟩ := hR5.shape; subst hv5; 
             have t0 := cell_of_block HE5.out 0; have t1 := cell_of_block HE5.out 1; have t2 := cell_of_block HE5.out 2; have tf := frozen_of_block HE5.out; simp at t0 t1 t2))
        all_goals
          have hkl1 : (cs.take (k + 1)).length = k + 1 := by rw [List.length_take]; omega
          rw [hTK.out, hkl1] at hR5
          have hs2 := HB2.out.size
          have hb25 : Below w2.heap.size w2 w5 := (HB3.out.trans (HB4.out.mono HB3.out.size)).trans (hb5.mono (Nat.le_trans HB3.out.size HB4.out.size))
          obtain ⟨hE6, hb6⟩ := puzzle_stored (B := w.heap.size) HE5.out (Nat.le_succ _) (.int .i64 W) (.int .i64 H) (.slice a5 (k + 1) c5)
          have hR6 := hR5.put3 (x := .int .i64 W) (y := .int .i64 H) (z := .slice a5 (k + 1) c5) HE5.out
          have hb7 := (HB2.out.trans (hb25.mono HB2.out.size)).trans hb6
          go_wp2_with fail
          go_roundw
          case rel => exact ⟨k + 1, by omega, by go_num, hGD.out HCK.out, ⟨_, hR6, hE6⟩, hb7⟩
          case measure => simp [intOf]; omega
      | false =>
        have HCK := Lib.hid hck
        clear hck
        have hS : w2.drew.rangeAt (w.heap.size + 1) 0 [.int .i64 W, .int .i64 H, .slice a2 k cap2] ∧ w2.drew.rangeAt G 0 (encC c) := ⟨range3 z0 z1 z2, range3 c0 c1 c2⟩
        refine wp_region_held_drew (S := fun w' => w'.rangeAt (w.heap.size + 1) 0 [.int .i64 W, .int .i64 H, .slice a2 k cap2] ∧ w'.rangeAt G 0 (encC c)) (by kernel_rfl) hS (fun hH => ?_)
        refine wpAnyH_take (i := 0) (v := .agg #[.int .i64 W, .int .i64 H, .slice a2 k cap2]) rfl (by kernel_rfl) (by kernel_rfl) (by kernel_rfl) (fun c a w h => slot_free 32 (by decide) (by decide) _ _ _ c w h) (yieldsIf_load_mid (by rfl) 31 _ rfl (w.heap.size + 1) 0 rfl [.int .i64 W, .int .i64 H, .slice a2 k cap2] _ (fun _ h => h.1) Tryd.underlying31 rfl infPuz) hH ?_
        refine wpAnyH_take (i := 1) (v := .agg #[.int .i64 W, .int .i64 H, .slice a2 k cap2]) rfl (by kernel_rfl) (by kernel_rfl) (by kernel_rfl) (fun c a w h => slot_free 33 (by decide) (by decide) _ _ _ c w h) (yieldsIf_load_mid (by rfl) 31 _ rfl (w.heap.size + 1) 0 rfl [.int .i64 W, .int .i64 H, .slice a2 k cap2] _ (fun _ h => h.1) Tryd.underlying31 rfl infPuz) hH ?_
        refine wpAnyH_take (i := 2) (v := .agg #[.int .i64 c.k, .int .i64 c.a, .int .i64 c.b]) rfl (by kernel_rfl) (by kernel_rfl) (by kernel_rfl) (fun c a w h => slot_free 34 (by decide) (by decide) _ _ _ c w h) (yieldsIf_load_mid (by rfl) 26 _ rfl G 0 rfl (encC c) _ (fun _ h => h.2) Tryd.underlying26 rfl infClu) hH ?_
        refine wpAnyH_ready (rs := [3]) (by kernel_rfl) (by simp) ?_
        refine AllReadyH.cons rfl (fun K hK => ?_) AllReadyH.nil
        go_simp
        refine (HC0.out 0 _ _ _ c _ HCK.out).mono ?_
        rintro e w3 ⟨rfl, hb3⟩
        exact door_panic _ _ c _ _ _ w3 _ rfl rfl (((ofDrewC hb3).block _ (block_lt HE2.out)).trans HE2.out) (fun w'' hb'' => ⟨rfl, (HB2.out.trans ((ofDrewC hb3).mono HB2.out.size)).trans (hb''.mono (Nat.le_succ _))⟩)
    · obtain rfl : k = cs.length := by omega
      rw [List.take_length] at hgood
      obtain ⟨c, hcm, hcf⟩ := hc
      rw [hgood c hcm] at hcf
      cases hcf
end Go.Proofs.YthlbplmghjaeoaaDoor
