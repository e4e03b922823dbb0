/- AddClue by the model, and both sides. -/
import Derived.Test.YthlbplmghjaeoaaAC
import Derived.Test.YthlbplmghjaeoaaB2
import Derived.Deep.MidRow
import Derived.Deep.RegionHeld
import Derived.Outline
namespace Go.Proofs.Ythlbplmghjaeoaa
open Go.RowKit

theorem pzB_add (x y : Int) (cs : List Clu) (c : Clu) : pzB x y (cs ++ [c]) = (pzB x y cs && (cluB x.toNat y.toNat c && decide (cs.length < 8))) := by
  rw [Bool.eq_iff_iff]
  simp only [pzB, Bool.and_eq_true, decide_eq_true_eq, List.all_append, List.all_cons, List.all_nil, Bool.and_true, List.length_append, List.length_singleton]
  constructor
  · rintro ⟨h1, h2, h3, h4⟩; exact ⟨⟨h1, by omega, h3⟩, h4, by omega⟩
  · rintro ⟨⟨h1, h2, h3⟩, h4, h5⟩; exact ⟨h1, by omega, h3, h4⟩
/-- append of a row of clues to a row that the call owns. -/
theorem run_appO2 (w : World) (B ty : Nat) (v : Value) (cs ms : List Clu) (hown : OwnsC w B v cs) (b : Option Addr) (m c : Nat) (hm : m = ms.length) (hat : At w b (flatC ms)) (hB : B ≤ w.heap.size) (hl : cs.length + ms.length ≤ 4000000) :
    ∃ v' w', (Builtin.append_ #[28, 28] ty #[v, .slice b m c]).run Try.prog w = .ok v' w' ∧ OwnsC w' B v' (cs ++ ms) ∧ Below B w w' ∧ (∀ k, k < w.heap.size → v.ownBlock ≠ some k → w'.heap[k]? = w.heap[k]?) := by
  subst hm
  have hc := infClu2
  cases hi : Try.prog.info? 34 with
  | none => rw [hi] at hc; cases hc
  | some i =>
    rw [hi] at hc
    simp only [Option.map_some, Option.some.injEq, Prod.mk.injEq] at hc
    obtain ⟨h1, h2, h3⟩ := hc
    cases hz : i.zero with
    | none => rw [hz] at h3; cases h3
    | some z =>
      rw [hz] at h3
      simp only [Option.map_some, Option.some.injEq] at h3
      cases b with
      | none =>
        obtain rfl : ms = [] := by
          cases ms with
          | nil => rfl
          | cons x r => obtain ⟨_, _, h, _⟩ := hat 0 (by simp); cases h
        have hsrc : Src Try.prog i.size 28 (.slice none ([] : List Clu).length c) 0 [] w := Src.ofNil w Try.underlying28 c
        obtain ⟨a1, c1, rfl⟩ := hown.shape
        have hle : cs.length ≤ c1 := by
          obtain ⟨_, ⟨h1, h2⟩ | ⟨g, cap, cur, hv, _, _, hc, _⟩⟩ := hown
          · omega
          · obtain ⟨_, rfl⟩ : a1 = some ⟨g, 0, none⟩ ∧ c1 = cap := by simpa using hv
            exact hc
        exact ⟨_, w, run_append_nothing w _ _ _ _ i Try.underlying28 hi a1 cs.length c1 hle _ hsrc, by rw [List.append_nil]; exact hown, Below.refl _ _, fun _ _ _ => rfl⟩
      | some ad =>
        have hnews : ∀ j u, (flatC ms)[j]? = some u → w.cell? (ad.add j) = some u := by
          intro j u hu
          obtain ⟨hj, rfl⟩ := List.getElem?_eq_some_iff.1 hu
          obtain ⟨g, off, hab, hc⟩ := hat j hj
          obtain rfl : ad = ⟨g, off, none⟩ := by simpa using hab
          rw [Addr.add_lit]
          exact hc
        obtain ⟨v', w', hr, g2, g3, _⟩ := run_append_own (P := Try.prog) w B 28 ty 34 i z 3 24 Try.underlying28 hi hz h1 h2 h3 (by decide) v cs.length (flatC cs) hown ad ms.length c (flatC ms) (flatC_length ms) hnews (flatC_one ms) (by unfold maxLen; omega) (by omega) hB
        exact ⟨v', w', hr, by unfold OwnsC; rw [List.length_append, flatC_append]; exact g2, (Below.refl B w).grown g3 hB (fun k hk => (hown.lt k hk).1), fun k hk hne => g3.block k hk hne.symm⟩
theorem rgA_later {w w' : World} {b o : Nat} {cs : List Value} (h : w.rangeAt b o cs) (hb : Below w.heap.size w w') : w'.rangeAt b o cs := fun j v hv => by
  have := h j v hv
  rw [hb.cell (p := ⟨b, o + j, none⟩) (World.block_lt_of_cell? w _ this)]; exact this
theorem rgA_heap {w w' : World} {b o : Nat} {cs : List Value} (h : w.rangeAt b o cs) (he : w'.heap[b]? = w.heap[b]?) : w'.rangeAt b o cs := fun j v hv => by
  rw [World.cell?_of_block (a := ⟨b, o + j, none⟩) he]; exact h j v hv
theorem cells3 {w : World} {g : Nat} {x y z : Value} {t : TypeId} {fr : Nat × Nat} (h : w.heap[g]? = some (.cells #[x, y, z] t fr)) : w.cell? ⟨g, 0, none⟩ = some x ∧ w.cell? ⟨g, 1, none⟩ = some y ∧ w.cell? ⟨g, 2, none⟩ = some z := by
  have h0 := cell_of_block h 0
  have h1 := cell_of_block h 1
  have h2 := cell_of_block h 2
  simp at h0 h1 h2
  exact ⟨h0, h1, h2⟩
theorem At.still {w w' : World} {g off : Nat} {L : List Value} (h : At w (some ⟨g, off, none⟩) L) (hb : w'.heap[g]? = w.heap[g]?) : At w' (some ⟨g, off, none⟩) L := fun k hk => by
  obtain ⟨g', off', hab, hc⟩ := h k hk
  obtain ⟨rfl, rfl⟩ : g = g' ∧ off = off' := by simpa using hab
  refine ⟨g, off, rfl, ?_⟩
  rw [← hc]
  simp [World.cell?, hb]
theorem step_appO2 {ops : Array Oper} {o : Oper} {x : Act} {K : Act → World → Prop} {Q : Exit → Act → World → Prop} {S : Prop} {w : World} (hgd : o.guard = none) (s y : Operand)
    (ho : o.op = .call { callee := .builtin .append, args := #[s, y], argTypes := #[28, 28] })
    (B : Nat) (v : Value) (cs ms : List Clu) (hs : x.eval s = v) (hown : OwnsC w B v cs) (b : Option Addr) (m c : Nat) (hy : x.eval y = .slice b m c) (hm : m = ms.length) (hat : At w b (flatC ms)) (hB : B ≤ w.heap.size) (hl : cs.length + ms.length ≤ 4000000)
    (h : ∀ v' w', OwnsC w' B v' (cs ++ ms) → Below B w w' → (∀ k, k < w.heap.size → v.ownBlock ≠ some k → w'.heap[k]? = w.heap[k]?) → K (x.put o.dst v') w') :
    if Region.wanted o (yielded ops x.tmps) = true then Oper.wp Try.prog o x w K Q else S := by
  have hw : Region.wanted o (yielded ops x.tmps) = true := by simp [Region.wanted, hgd]
  rw [if_pos hw]
  obtain ⟨v', w', hrun, h2, h3, h4⟩ := run_appO2 w B o.type v cs ms hown b m c hm hat hB hl
  unfold Oper.wp execOp
  simp only [ho, resolve, invoke, builtin, Sem.run_bind, Sem.run_pure, Result.andThen_ok, List.map_toArray, List.map_cons, List.map_nil, hs, hy, hrun]
  exact h v' w' h2 h3 h4
set_option maxRecDepth 100000 in
set_option maxHeartbeats 1600000 in
theorem sAdd_no (x y : Int) (c : Clu) (a : Option Addr) (n cap : Nat) (cs : List Clu) (w : World) (hn : n = cs.length) (hat : At w a (flatC cs)) (hl : cs.length ≤ 1048576) (hD : pzB x y (cs ++ [c]) = false) :
    Calls Try.prog 6 #[.agg #[.int .i64 x, .int .i64 y, .slice a n cap], valC c] w fun e w' => e = .returned (.tuple #[.agg #[.int .i64 0, .int .i64 0, .slice none 0 0], .bool false]) ∧ Below w.heap.size w w' := by
  subst hn
  unfold valC
  have hb : Below w.heap.size w (((w.alloc (.cells #[.int .i64 x, .int .i64 y, .slice a cs.length cap] 30)).alloc (.cells #[.int .i64 c.k, .int .i64 c.a, .int .i64 c.b] 34)).alloc (.cells #[.int .i64 0, .int .i64 0, .slice none 0 0] 30)) := (((Below.refl _ _).alloc (Nat.le_refl _) _).alloc (by simp) _).alloc (by simp; omega) _
  obtain ⟨hG, hC, hE⟩ := blk3 w (.cells #[.int .i64 x, .int .i64 y, .slice a cs.length cap] 30) (.cells #[.int .i64 c.k, .int .i64 c.a, .int .i64 c.b] 34) (.cells #[.int .i64 0, .int .i64 0, .slice none 0 0] 30)
  have hat1 := hat.later rfl hb
  have hg := fun w hat => pzGood_any x y a cs.length cap cs w rfl hat
  cases h : pzB x y cs with
  | false =>
    rw [h] at hg
    have HGD := Lib.hid hg
    clear hg h hD
    go_enter Try.func6, Try.ntmps6
    go_wp2_with fail
    generalize ((w.alloc (.cells #[.int .i64 x, .int .i64 y, .slice a cs.length cap] 30)).alloc (.cells #[.int .i64 c.k, .int .i64 c.a, .int .i64 c.b] 34)).alloc (.cells #[.int .i64 0, .int .i64 0, .slice none 0 0] 30) = w1 at *
    refine (HGD.out _ hat1).mono ?_
    rintro e w2 ⟨rfl, hb2⟩
    have hB2 := hb.trans (hb2.mono hb.size)
    have hE2 := (hb2.block _ (block_lt hE)).trans hE
    clear hb hb2 hat1 hat hE hG hC
    have z0 := cell_of_block hE2 0
    have z1 := cell_of_block hE2 1
    have z2 := cell_of_block hE2 2
    have zf := frozen_of_block hE2
    simp at z0 z1 z2
    have HE2 := Lib.hid hE2
    clear hE2
    go_wp2_with fail
    obtain ⟨hE5, hb5⟩ := puzzle_stored (B := w.heap.size) HE2.out (by omega) (.int .i64 0) (.int .i64 0) (.slice none 0 0)
    exact bodyPost_ret (res_pair rfl _ _ _ _ _ _ _ _ rfl hE5 Try.underlying30 rfl infPuz rfl) rfl ⟨rfl, hB2.trans hb5⟩
  | true =>
    obtain ⟨W, H, rfl, rfl, hW, hH, h9, hs, h8, hc⟩ := pz_yes h
    rw [pzB_add, h, Bool.true_and] at hD
    simp only [Int.toNat_natCast] at hD
    rw [h] at hg
    have hcl := fun w => pzClue_any W H c w hW hH
    have HGD := Lib.hid hg
    cases hq : cluB W H c with
    | false =>
      rw [hq] at hcl
      have HCL := Lib.hid hcl
      clear hg h hD hcl hq
      go_enter Try.func6, Try.ntmps6
      go_wp2_with fail
      generalize ((w.alloc (.cells #[.int .i64 (W : Int), .int .i64 (H : Int), .slice a cs.length cap] 30)).alloc (.cells #[.int .i64 c.k, .int .i64 c.a, .int .i64 c.b] 34)).alloc (.cells #[.int .i64 0, .int .i64 0, .slice none 0 0] 30) = w1 at *
      refine (HGD.out _ hat1).mono ?_
      rintro e w2 ⟨rfl, hb2⟩
      have hB2 := hb.trans (hb2.mono hb.size)
      have hE2 := (hb2.block _ (block_lt hE)).trans hE
      have hG2 := (hb2.block _ (block_lt hG)).trans hG
      have hC2 := (hb2.block _ (block_lt hC)).trans hC
      clear hb hb2 hat1 hat hE hG hC
      have f0 := cell_of_block hG2 0
      have f1 := cell_of_block hG2 1
      have f2 := cell_of_block hG2 2
      have g0 := cell_of_block hC2 0
      have g1 := cell_of_block hC2 1
      have g2 := cell_of_block hC2 2
      simp at f0 f1 f2 g0 g1 g2
      have HE2 := Lib.hid hE2
      clear hE2 hG2 hC2
      go_wp2_with fail
      refine (HCL.out _).mono ?_
      rintro e w3 ⟨rfl, hb3⟩
      have hB3 := hB2.trans (hb3.mono hB2.size)
      have hE3 := Lib.hid ((hb3.block _ (block_lt HE2.out)).trans HE2.out)
      have z0 := cell_of_block hE3.out 0
      have z1 := cell_of_block hE3.out 1
      have z2 := cell_of_block hE3.out 2
      have zf := frozen_of_block hE3.out
      simp at z0 z1 z2
      clear hB2 hb3 HE2
      go_wp2_with fail
      obtain ⟨hE5, hb5⟩ := puzzle_stored (B := w.heap.size) hE3.out (by omega) (.int .i64 0) (.int .i64 0) (.slice none 0 0)
      exact bodyPost_ret (res_pair rfl _ _ _ _ _ _ _ _ rfl hE5 Try.underlying30 rfl infPuz rfl) rfl ⟨rfl, hB3.trans hb5⟩
    | true =>
      rw [hq] at hcl hD
      have h88 : cs.length = 8 := by
        rw [Bool.true_and, decide_eq_false_iff_not] at hD
        omega
      have h8i : (cs.length : Int) = 8 := by omega
      have HCL := Lib.hid hcl
      clear hg h hD hcl hq h88
      go_enter Try.func6, Try.ntmps6
      go_wp2_with fail
      generalize ((w.alloc (.cells #[.int .i64 (W : Int), .int .i64 (H : Int), .slice a cs.length cap] 30)).alloc (.cells #[.int .i64 c.k, .int .i64 c.a, .int .i64 c.b] 34)).alloc (.cells #[.int .i64 0, .int .i64 0, .slice none 0 0] 30) = w1 at *
      refine (HGD.out _ hat1).mono ?_
      rintro e w2 ⟨rfl, hb2⟩
      have hB2 := hb.trans (hb2.mono hb.size)
      have hE2 := (hb2.block _ (block_lt hE)).trans hE
      have hG2 := (hb2.block _ (block_lt hG)).trans hG
      have hC2 := (hb2.block _ (block_lt hC)).trans hC
      clear hb hb2 hat1 hat hE hG hC
      have f0 := cell_of_block hG2 0
      have f1 := cell_of_block hG2 1
      have f2 := cell_of_block hG2 2
      have g0 := cell_of_block hC2 0
      have g1 := cell_of_block hC2 1
      have g2 := cell_of_block hC2 2
      simp at f0 f1 f2 g0 g1 g2
      have HE2 := Lib.hid hE2
      have HG2 := Lib.hid hG2
      clear hE2 hG2 hC2
      go_wp2_with fail
      refine (HCL.out _).mono ?_
      rintro e w3 ⟨rfl, hb3⟩
      have hB3 := hB2.trans (hb3.mono hB2.size)
      have hE3 := Lib.hid ((hb3.block _ (block_lt HE2.out)).trans HE2.out)
      have hG3 := Lib.hid ((hb3.block _ (block_lt HG2.out)).trans HG2.out)
      clear f0 f1 f2 g0 g1 g2
      have f0 := cell_of_block hG3.out 0
      have f1 := cell_of_block hG3.out 1
      have f2 := cell_of_block hG3.out 2
      have z0 := cell_of_block hE3.out 0
      have z1 := cell_of_block hE3.out 1
      have z2 := cell_of_block hE3.out 2
      have zf := frozen_of_block hE3.out
      simp at z0 z1 z2 f0 f1 f2
      clear hB2 hb3 HE2
      go_wp2_with fail
      obtain ⟨hE5, hb5⟩ := puzzle_stored (B := w.heap.size) hE3.out (by omega) (.int .i64 0) (.int .i64 0) (.slice none 0 0)
      exact bodyPost_ret (res_pair rfl _ _ _ _ _ _ _ _ rfl hE5 Try.underlying30 rfl infPuz rfl) rfl ⟨rfl, hB3.trans hb5⟩
set_option maxRecDepth 100000 in
set_option maxHeartbeats 3200000 in
theorem sAdd_yes (W H : Nat) (c : Clu) (a : Option Addr) (n cap : Nat) (cs : List Clu) (w : World) (hn : n = cs.length) (hat : At w a (flatC cs)) (hl : cs.length ≤ 1048576) (hD : pzB W H (cs ++ [c]) = true) :
    Calls Try.prog 6 #[.agg #[.int .i64 W, .int .i64 H, .slice a n cap], valC c] w fun e w' => ∃ v, e = .returned (.tuple #[.agg #[.int .i64 W, .int .i64 H, v], .bool true]) ∧ RowC w' w.heap.size v (cs ++ [c]) ∧ Below w.heap.size w w' := by
  subst hn
  unfold valC
  have hb : Below w.heap.size w (((w.alloc (.cells #[.int .i64 W, .int .i64 H, .slice a cs.length cap] 30)).alloc (.cells #[.int .i64 c.k, .int .i64 c.a, .int .i64 c.b] 34)).alloc (.cells #[.int .i64 0, .int .i64 0, .slice none 0 0] 30)) := (((Below.refl _ _).alloc (Nat.le_refl _) _).alloc (by simp) _).alloc (by simp; omega) _
  obtain ⟨hG, hC, hE⟩ := blk3 w (.cells #[.int .i64 W, .int .i64 H, .slice a cs.length cap] 30) (.cells #[.int .i64 c.k, .int .i64 c.a, .int .i64 c.b] 34) (.cells #[.int .i64 0, .int .i64 0, .slice none 0 0] 30)
  have hat1 := hat.later rfl hb
  have h := pzB_snoc hD
  have hg := fun w hat => pzGood_any W H a cs.length cap cs w rfl hat
  obtain ⟨W', H', hw, hh, hW, hH, h9, hs, h8, hc⟩ := pz_yes h
  obtain rfl : W = W' := by omega
  obtain rfl : H = H' := by omega
  rw [pzB_add, h, Bool.true_and, Bool.and_eq_true, decide_eq_true_eq] at hD
  simp only [Int.toNat_natCast] at hD
  obtain ⟨hq, h7⟩ := hD
  have hcl := fun w => pzClue_any W H c w hW hH
  rw [h] at hg
  rw [hq] at hcl
  have h8n : ¬ ((cs.length : Int) = 8) := by omega
  have HGD := Lib.hid hg
  have HCL := Lib.hid hcl
  have HWI := Lib.hid (fun b m c w => pzWith_any (W : Int) (H : Int) a cs.length cap b m c w)
  clear hg h hcl hq hs hc
  go_enter Try.func6, Try.ntmps6
  go_wp2_with fail
  generalize ((w.alloc (.cells #[.int .i64 (W : Int), .int .i64 (H : Int), .slice a cs.length cap] 30)).alloc (.cells #[.int .i64 c.k, .int .i64 c.a, .int .i64 c.b] 34)).alloc (.cells #[.int .i64 0, .int .i64 0, .slice none 0 0] 30) = w1 at *
  refine (HGD.out _ hat1).mono ?_
  rintro e w2 ⟨rfl, hb2⟩
  have hB2 := hb.trans (hb2.mono hb.size)
  have hE2 := (hb2.block _ (block_lt hE)).trans hE
  have hG2 := (hb2.block _ (block_lt hG)).trans hG
  have hC2 := (hb2.block _ (block_lt hC)).trans hC
  have hat2 := hat.later rfl hB2
  clear hb hb2 hat1 hat hE hG hC
  have f0 := cell_of_block hG2 0
  have f1 := cell_of_block hG2 1
  have f2 := cell_of_block hG2 2
  have g0 := cell_of_block hC2 0
  have g1 := cell_of_block hC2 1
  have g2 := cell_of_block hC2 2
  simp at f0 f1 f2 g0 g1 g2
  have HE2 := Lib.hid hE2
  have HG2 := Lib.hid hG2
  have HC2 := Lib.hid hC2
  clear hE2 hG2 hC2
  go_wp2_with fail
  refine (HCL.out _).mono ?_
  rintro e w3 ⟨rfl, hb3⟩
  have hB3 := hB2.trans (hb3.mono hB2.size)
  have HE3 := Lib.hid ((hb3.block _ (block_lt HE2.out)).trans HE2.out)
  have HG3 := Lib.hid ((hb3.block _ (block_lt HG2.out)).trans HG2.out)
  have HC3 := Lib.hid ((hb3.block _ (block_lt HC2.out)).trans HC2.out)
  have HA3 := Lib.hid (hat2.later rfl hb3)
  have HB3 := Lib.hid hB3
  clear f0 f1 f2 g0 g1 g2 hB2 hB3 hb3 HE2 HG2 HC2 hat2
  have f0 := cell_of_block HG3.out 0
  have f1 := cell_of_block HG3.out 1
  have f2 := cell_of_block HG3.out 2
  have g0 := cell_of_block HC3.out 0
  have g1 := cell_of_block HC3.out 1
  have g2 := cell_of_block HC3.out 2
  simp at f0 f1 f2 g0 g1 g2
  go_upto_region 3 with fail
  have hwA : Below w3.heap.size w3 (w3.alloc (.cells #[] 34)) := (Below.refl _ _).alloc (Nat.le_refl _) _
  have hwD : Below w3.heap.size w3 (w3.alloc (.cells #[.int .i64 c.k, .int .i64 c.a, .int .i64 c.b] 34)) := (Below.refl _ _).alloc (Nat.le_refl _) _
  have hwB : Below w3.heap.size w3 ((w3.alloc (.cells #[] 34)).alloc (.cells #[.int .i64 c.k, .int .i64 c.a, .int .i64 c.b] 34)) := hwA.alloc (by simp) _
  have hwC : Below w3.heap.size w3 ((w3.alloc (.cells #[.int .i64 c.k, .int .i64 c.a, .int .i64 c.b] 34)).alloc (.cells #[] 34)) := hwD.alloc (by simp) _
  have hOA : OwnsC (w3.alloc (.cells #[] 34)).drew w3.heap.size (.slice (some ⟨w3.heap.size, 0, none⟩) 0 0) [] := OwnsC.empty w3 w3.heap.size (Nat.le_refl _)
  have hOB : OwnsC ((w3.alloc (.cells #[] 34)).alloc (.cells #[.int .i64 c.k, .int .i64 c.a, .int .i64 c.b] 34)).drew w3.heap.size (.slice (some ⟨w3.heap.size, 0, none⟩) 0 0) [] := hOA.later ((Below.refl _ _).alloc (Nat.le_refl _) _)
  have hOC : OwnsC ((w3.alloc (.cells #[.int .i64 c.k, .int .i64 c.a, .int .i64 c.b] 34)).alloc (.cells #[] 34)).drew w3.heap.size (.slice (some ⟨w3.heap.size + 1, 0, none⟩) 0 0) [] := by have h := OwnsC.empty (w3.alloc (.cells #[.int .i64 c.k, .int .i64 c.a, .int .i64 c.b] 34)) w3.heap.size (by simp); simp only [World.size_alloc] at h; exact h
  have hEB : At ((w3.alloc (.cells #[] 34)).alloc (.cells #[.int .i64 c.k, .int .i64 c.a, .int .i64 c.b] 34)).drew (some ⟨w3.heap.size + 1, 0, none⟩) (flatC [c]) := by have h := at_clue (w3.alloc (.cells #[] 34)) c 34; simp only [World.size_alloc] at h; exact h
  have hEC : At ((w3.alloc (.cells #[.int .i64 c.k, .int .i64 c.a, .int .i64 c.b] 34)).alloc (.cells #[] 34)).drew (some ⟨w3.heap.size, 0, none⟩) (flatC [c]) := (at_clue w3 c 34).later rfl ((Below.refl _ _).alloc (Nat.le_refl _) _).drew
  have hS0 : w3.rangeAt w.heap.size 0 [.int .i64 W, .int .i64 H, .slice a cs.length cap] ∧ w3.rangeAt (w.heap.size + 1) 0 [.int .i64 c.k, .int .i64 c.a, .int .i64 c.b] := ⟨range3 f0 f1 f2, range3 g0 g1 g2⟩
  have hS : w3.drew.rangeAt w.heap.size 0 [.int .i64 W, .int .i64 H, .slice a cs.length cap] ∧ w3.drew.rangeAt (w.heap.size + 1) 0 [.int .i64 c.k, .int .i64 c.a, .int .i64 c.b] := hS0
  have hSA : (fun (w' : World) => w'.rangeAt w.heap.size 0 [.int .i64 W, .int .i64 H, .slice a cs.length cap] ∧ w'.rangeAt (w.heap.size + 1) 0 [.int .i64 c.k, .int .i64 c.a, .int .i64 c.b]) (w3.alloc (.cells #[] 34)).drew := ⟨rgA_later hS0.1 hwA.drew, rgA_later hS0.2 hwA.drew⟩
  have hSB : (fun (w' : World) => w'.rangeAt w.heap.size 0 [.int .i64 W, .int .i64 H, .slice a cs.length cap] ∧ w'.rangeAt (w.heap.size + 1) 0 [.int .i64 c.k, .int .i64 c.a, .int .i64 c.b]) ((w3.alloc (.cells #[] 34)).alloc (.cells #[.int .i64 c.k, .int .i64 c.a, .int .i64 c.b] 34)).drew := ⟨rgA_later hS0.1 hwB.drew, rgA_later hS0.2 hwB.drew⟩
  have hSC : (fun (w' : World) => w'.rangeAt w.heap.size 0 [.int .i64 W, .int .i64 H, .slice a cs.length cap] ∧ w'.rangeAt (w.heap.size + 1) 0 [.int .i64 c.k, .int .i64 c.a, .int .i64 c.b]) ((w3.alloc (.cells #[.int .i64 c.k, .int .i64 c.a, .int .i64 c.b] 34)).alloc (.cells #[] 34)).drew := ⟨rgA_later hS0.1 hwC.drew, rgA_later hS0.2 hwC.drew⟩
  have hSD : (fun (w' : World) => w'.rangeAt w.heap.size 0 [.int .i64 W, .int .i64 H, .slice a cs.length cap] ∧ w'.rangeAt (w.heap.size + 1) 0 [.int .i64 c.k, .int .i64 c.a, .int .i64 c.b]) (w3.alloc (.cells #[.int .i64 c.k, .int .i64 c.a, .int .i64 c.b] 34)).drew := ⟨rgA_later hS0.1 hwD.drew, rgA_later hS0.2 hwD.drew⟩
  refine wp_region_held_drew (S := fun w' => w'.rangeAt w.heap.size 0 [.int .i64 W, .int .i64 H, .slice a cs.length cap] ∧ w'.rangeAt (w.heap.size + 1) 0 [.int .i64 c.k, .int .i64 c.a, .int .i64 c.b]) (by kernel_rfl) hS (fun hH => ?_)
  refine wpAnyH_take (i := 0) (v := .agg #[.int .i64 W, .int .i64 H, .slice a cs.length cap]) rfl (by kernel_rfl) (by kernel_rfl) (by kernel_rfl) (fun _ _ _ h => h) (yieldsIf_load_mid (by rfl) 30 _ rfl w.heap.size 0 rfl [.int .i64 W, .int .i64 H, .slice a cs.length cap] _ (fun _ h => h.1) Try.underlying30 rfl infPuz) hH ?_
  simp only [Act.put, List.setIfInBounds_toArray, List.set_cons_zero, List.set_cons_succ]
  refine wpAnyH_take (i := 2) (v := .pointer (some ⟨w.heap.size, 2, none⟩)) rfl (by kernel_rfl) (by kernel_rfl) (by kernel_rfl) (fun _ _ _ h => h) (Or.inl ⟨by rfl, fun w' _ => by unfold execOp; go_simp⟩) hH ?_
  simp only [Act.put, List.setIfInBounds_toArray, List.set_cons_zero, List.set_cons_succ]
  refine wpAnyH_take (i := 3) (v := .slice a cs.length cap) rfl (by kernel_rfl) (by kernel_rfl) (by kernel_rfl) (fun _ _ _ h => h) (Or.inl ⟨by rfl, fun w' hw => by have p0 := hw.1 2 _ rfl; unfold execOp; go_simp⟩) hH ?_
  simp only [Act.put, List.setIfInBounds_toArray, List.set_cons_zero, List.set_cons_succ]
  refine wpAnyH_take (i := 5) (v := .agg #[.int .i64 c.k, .int .i64 c.a, .int .i64 c.b]) rfl (by kernel_rfl) (by kernel_rfl) (by kernel_rfl) (fun _ _ _ h => h) (yieldsIf_load_mid (by rfl) 34 _ rfl (w.heap.size + 1) 0 rfl [.int .i64 c.k, .int .i64 c.a, .int .i64 c.b] _ (fun _ h => h.2) Try.underlying34 rfl infClu) hH ?_
  simp only [Act.put, List.setIfInBounds_toArray, List.set_cons_zero, List.set_cons_succ]
  refine wpAnyH_ready (rs := [1, 6]) (by kernel_rfl) (by simp) ?_
  refine AllReadyH.cons rfl (fun K hK => ?_) (AllReadyH.cons rfl (fun K hK => ?_) AllReadyH.nil)
  · go_simp
    refine hK.out _ _ hSA (fun hH1 => ?_)
    clear hK K
    refine wpAnyH_ready (rs := [4, 6]) (by kernel_rfl) (by simp) ?_
    refine AllReadyH.cons rfl (fun K hK => ?_) (AllReadyH.cons rfl (fun K hK => ?_) AllReadyH.nil)
    · refine step_appO2 rfl _ _ rfl w3.heap.size (.slice (some ⟨w3.heap.size, 0, none⟩) 0 0) [] cs rfl hOA a _ _ rfl rfl (HA3.out.later rfl hwA.drew) hwA.size (by simp; omega) ?_
      intro v1 w5 hO5 hb5 hk5
      have hb35 := hwA.drew.trans hb5
      have hS5 := And.intro (rgA_later hS0.1 hb35) (rgA_later hS0.2 hb35)
      refine hK.out _ _ hS5 (fun hH2 => ?_)
      clear hK K
      refine wpAnyH_ready (rs := [6]) (by kernel_rfl) (by simp) ?_
      refine AllReadyH.cons rfl (fun K hK => ?_) AllReadyH.nil
      go_simp
      have hb6 : Below w5.heap.size w5 (w5.alloc (.cells #[.int .i64 c.k, .int .i64 c.a, .int .i64 c.b] 34)) := (Below.refl _ _).alloc (Nat.le_refl _) _
      have hb36 := hb35.trans (hb6.mono hb35.size)
      have HO6 := Lib.hid (hO5.later hb6)
      have HE6 := Lib.hid (at_clue w5 c 34)
      have hS6 := And.intro (rgA_later hS0.1 hb36) (rgA_later hS0.2 hb36)
      refine hK.out _ _ hS6 (fun hH3 => ?_)
      clear hK K
      refine wpAnyH_ready (rs := [7]) (by kernel_rfl) (by simp) ?_
      refine AllReadyH.cons rfl (fun K hK => ?_) AllReadyH.nil
      refine step_appO rfl _ _ rfl w3.heap.size v1 ([] ++ cs) [c] rfl HO6.out _ _ _ rfl rfl HE6.out hb36.size (by simp; omega) ?_
      intro v7 w7 hO7 hb7
      obtain ⟨a7, c7, hv7⟩ := hO7.shape
      subst hv7
      have hb37 := hb36.trans hb7
      have hS7 := And.intro (rgA_later hS0.1 hb37) (rgA_later hS0.2 hb37)
      refine hK.out _ _ hS7 (fun hH4 => ?_)
      clear hK K
      refine wpAnyH_ready (rs := [8]) (by kernel_rfl) (by simp) ?_
      refine AllReadyH.cons rfl (fun K hK => ?_) AllReadyH.nil
      go_simp
      refine (HWI.out a7 _ c7 w7).mono ?_
      rintro e w8 ⟨rfl, hb8⟩
      have HE8 := Lib.hid (((hb37.trans (hb8.mono hb37.size)).block _ (block_lt HE3.out)).trans HE3.out)
      have t0 := cell_of_block HE8.out 0; have t1 := cell_of_block HE8.out 1; have t2 := cell_of_block HE8.out 2; have tf := frozen_of_block HE8.out; simp at t0 t1 t2
      have hS8 := And.intro (rgA_later hS7.1 hb8) (rgA_later hS7.2 hb8)
      go_wp2_with fail
      refine hK.out _ _ hS8 (fun hH5 => ?_)
      clear hK K
      refine wpAnyH_ready (rs := [9]) (by kernel_rfl) (by simp) ?_
      refine AllReadyH.cons rfl (fun K hK => ?_) AllReadyH.nil
      go_simp
      have hb38 := hb37.trans (hb8.mono hb37.size)
      have hO8 : RowC w8 w.heap.size (.slice a7 (cs.length + 1) c7) (cs ++ [c]) := by have h := ((hO7.later hb8).row.mono (B' := w.heap.size) HB3.out.size); simp only [List.nil_append, List.length_append, List.length_cons, List.length_nil, Nat.zero_add] at h; exact h
      obtain ⟨hE9, hb9⟩ := puzzle_stored (B := w.heap.size) HE8.out (by omega) (.int .i64 W) (.int .i64 H) (.slice a7 (cs.length + 1) c7)
      have hS9 : World.rangeAt (((w8.setCell ⟨w.heap.size + 1 + 1, 0, none⟩ (.int .i64 W)).setCell ⟨w.heap.size + 1 + 1, 1, none⟩ (.int .i64 H)).setCell ⟨w.heap.size + 1 + 1, 2, none⟩ (.slice a7 (cs.length + 1) c7)) w.heap.size 0 [.int .i64 W, .int .i64 H, .slice a cs.length cap] ∧ World.rangeAt (((w8.setCell ⟨w.heap.size + 1 + 1, 0, none⟩ (.int .i64 W)).setCell ⟨w.heap.size + 1 + 1, 1, none⟩ (.int .i64 H)).setCell ⟨w.heap.size + 1 + 1, 2, none⟩ (.slice a7 (cs.length + 1) c7)) (w.heap.size + 1) 0 [.int .i64 c.k, .int .i64 c.a, .int .i64 c.b] := ⟨rgA_heap hS8.1 ((away_setC (by omega)).trans ((away_setC (by omega)).trans (away_setC (by omega)))), rgA_heap hS8.2 ((away_setC (by omega)).trans ((away_setC (by omega)).trans (away_setC (by omega))))⟩
      refine hK.out _ _ hS9 (fun hH6 => ?_)
      clear hK K
      refine wpAnyH_ready (rs := [10]) (by kernel_rfl) (by simp) ?_
      refine AllReadyH.cons rfl (fun K hK => ?_) AllReadyH.nil
      go_simp
      refine hK.out _ _ hS9 (fun hH7 => ?_)
      clear hK K
      refine wpAnyH_done (by kernel_rfl) ?_ _
      have hbz := (HB3.out.trans (hb38.mono HB3.out.size)).trans hb9
      go_wp2_with fail
      exact bodyPost_ret (res_pair rfl _ _ _ _ _ _ _ _ rfl hE9 Try.underlying30 rfl infPuz rfl) rfl ⟨.slice a7 (cs.length + 1) c7, rfl, hO8.put3 HE8.out, hbz⟩
    · go_simp
      refine hK.out _ _ hSB (fun hH8 => ?_)
      clear hK K
      refine wpAnyH_ready (rs := [4]) (by kernel_rfl) (by simp) ?_
      refine AllReadyH.cons rfl (fun K hK => ?_) AllReadyH.nil
      refine step_appO2 rfl _ _ rfl w3.heap.size (.slice (some ⟨w3.heap.size, 0, none⟩) 0 0) [] cs rfl hOB a _ _ rfl rfl (HA3.out.later rfl hwB.drew) hwB.size (by simp; omega) ?_
      intro v1 w6 hO5 hb5 hk5
      have hb36 := hwB.drew.trans hb5
      have HO6 := Lib.hid hO5
      have HE6 := Lib.hid (hEB.still (hk5 _ (by simp) (by simp [Value.ownBlock])))
      have hS6 := And.intro (rgA_later hS0.1 hb36) (rgA_later hS0.2 hb36)
      refine hK.out _ _ hS6 (fun hH9 => ?_)
      clear hK K
      refine wpAnyH_ready (rs := [7]) (by kernel_rfl) (by simp) ?_
      refine AllReadyH.cons rfl (fun K hK => ?_) AllReadyH.nil
      refine step_appO rfl _ _ rfl w3.heap.size v1 ([] ++ cs) [c] rfl HO6.out _ _ _ rfl rfl HE6.out hb36.size (by simp; omega) ?_
      intro v7 w7 hO7 hb7
      obtain ⟨a7, c7, hv7⟩ := hO7.shape
      subst hv7
      have hb37 := hb36.trans hb7
      have hS7 := And.intro (rgA_later hS0.1 hb37) (rgA_later hS0.2 hb37)
      refine hK.out _ _ hS7 (fun hH10 => ?_)
      clear hK K
      refine wpAnyH_ready (rs := [8]) (by kernel_rfl) (by simp) ?_
      refine AllReadyH.cons rfl (fun K hK => ?_) AllReadyH.nil
      go_simp
      refine (HWI.out a7 _ c7 w7).mono ?_
      rintro e w8 ⟨rfl, hb8⟩
      have HE8 := Lib.hid (((hb37.trans (hb8.mono hb37.size)).block _ (block_lt HE3.out)).trans HE3.out)
      have t0 := cell_of_block HE8.out 0; have t1 := cell_of_block HE8.out 1; have t2 := cell_of_block HE8.out 2; have tf := frozen_of_block HE8.out; simp at t0 t1 t2
      have hS8 := And.intro (rgA_later hS7.1 hb8) (rgA_later hS7.2 hb8)
      go_wp2_with fail
      refine hK.out _ _ hS8 (fun hH11 => ?_)
      clear hK K
      refine wpAnyH_ready (rs := [9]) (by kernel_rfl) (by simp) ?_
      refine AllReadyH.cons rfl (fun K hK => ?_) AllReadyH.nil
      go_simp
      have hb38 := hb37.trans (hb8.mono hb37.size)
      have hO8 : RowC w8 w.heap.size (.slice a7 (cs.length + 1) c7) (cs ++ [c]) := by have h := ((hO7.later hb8).row.mono (B' := w.heap.size) HB3.out.size); simp only [List.nil_append, List.length_append, List.length_cons, List.length_nil, Nat.zero_add] at h; exact h
      obtain ⟨hE9, hb9⟩ := puzzle_stored (B := w.heap.size) HE8.out (by omega) (.int .i64 W) (.int .i64 H) (.slice a7 (cs.length + 1) c7)
      have hS9 : World.rangeAt (((w8.setCell ⟨w.heap.size + 1 + 1, 0, none⟩ (.int .i64 W)).setCell ⟨w.heap.size + 1 + 1, 1, none⟩ (.int .i64 H)).setCell ⟨w.heap.size + 1 + 1, 2, none⟩ (.slice a7 (cs.length + 1) c7)) w.heap.size 0 [.int .i64 W, .int .i64 H, .slice a cs.length cap] ∧ World.rangeAt (((w8.setCell ⟨w.heap.size + 1 + 1, 0, none⟩ (.int .i64 W)).setCell ⟨w.heap.size + 1 + 1, 1, none⟩ (.int .i64 H)).setCell ⟨w.heap.size + 1 + 1, 2, none⟩ (.slice a7 (cs.length + 1) c7)) (w.heap.size + 1) 0 [.int .i64 c.k, .int .i64 c.a, .int .i64 c.b] := ⟨rgA_heap hS8.1 ((away_setC (by omega)).trans ((away_setC (by omega)).trans (away_setC (by omega)))), rgA_heap hS8.2 ((away_setC (by omega)).trans ((away_setC (by omega)).trans (away_setC (by omega))))⟩
      refine hK.out _ _ hS9 (fun hH12 => ?_)
      clear hK K
      refine wpAnyH_ready (rs := [10]) (by kernel_rfl) (by simp) ?_
      refine AllReadyH.cons rfl (fun K hK => ?_) AllReadyH.nil
      go_simp
      refine hK.out _ _ hS9 (fun hH13 => ?_)
      clear hK K
      refine wpAnyH_done (by kernel_rfl) ?_ _
      have hbz := (HB3.out.trans (hb38.mono HB3.out.size)).trans hb9
      go_wp2_with fail
      exact bodyPost_ret (res_pair rfl _ _ _ _ _ _ _ _ rfl hE9 Try.underlying30 rfl infPuz rfl) rfl ⟨.slice a7 (cs.length + 1) c7, rfl, hO8.put3 HE8.out, hbz⟩
  · go_simp
    refine hK.out _ _ hSD (fun hH14 => ?_)
    clear hK K
    refine wpAnyH_ready (rs := [1]) (by kernel_rfl) (by simp) ?_
    refine AllReadyH.cons rfl (fun K hK => ?_) AllReadyH.nil
    go_simp
    refine hK.out _ _ hSC (fun hH15 => ?_)
    clear hK K
    refine wpAnyH_ready (rs := [4]) (by kernel_rfl) (by simp) ?_
    refine AllReadyH.cons rfl (fun K hK => ?_) AllReadyH.nil
    refine step_appO2 rfl _ _ rfl w3.heap.size (.slice (some ⟨w3.heap.size + 1, 0, none⟩) 0 0) [] cs rfl hOC a _ _ rfl rfl (HA3.out.later rfl hwC.drew) hwC.size (by simp; omega) ?_
    intro v1 w6 hO5 hb5 hk5
    have hb36 := hwC.drew.trans hb5
    have HO6 := Lib.hid hO5
    have HE6 := Lib.hid (hEC.still (hk5 _ (by simp; omega) (by simp [Value.ownBlock])))
    have hS6 := And.intro (rgA_later hS0.1 hb36) (rgA_later hS0.2 hb36)
    refine hK.out _ _ hS6 (fun hH16 => ?_)
    clear hK K
    refine wpAnyH_ready (rs := [7]) (by kernel_rfl) (by simp) ?_
    refine AllReadyH.cons rfl (fun K hK => ?_) AllReadyH.nil
    refine step_appO rfl _ _ rfl w3.heap.size v1 ([] ++ cs) [c] rfl HO6.out _ _ _ rfl rfl HE6.out hb36.size (by simp; omega) ?_
    intro v7 w7 hO7 hb7
    obtain ⟨a7, c7, hv7⟩ := hO7.shape
    subst hv7
    have hb37 := hb36.trans hb7
    have hS7 := And.intro (rgA_later hS0.1 hb37) (rgA_later hS0.2 hb37)
    refine hK.out _ _ hS7 (fun hH17 => ?_)
    clear hK K
    refine wpAnyH_ready (rs := [8]) (by kernel_rfl) (by simp) ?_
    refine AllReadyH.cons rfl (fun K hK => ?_) AllReadyH.nil
    go_simp
    refine (HWI.out a7 _ c7 w7).mono ?_
    rintro e w8 ⟨rfl, hb8⟩
    have HE8 := Lib.hid (((hb37.trans (hb8.mono hb37.size)).block _ (block_lt HE3.out)).trans HE3.out)
    have t0 := cell_of_block HE8.out 0; have t1 := cell_of_block HE8.out 1; have t2 := cell_of_block HE8.out 2; have tf := frozen_of_block HE8.out; simp at t0 t1 t2
    have hS8 := And.intro (rgA_later hS7.1 hb8) (rgA_later hS7.2 hb8)
    go_wp2_with fail
    refine hK.out _ _ hS8 (fun hH18 => ?_)
    clear hK K
    refine wpAnyH_ready (rs := [9]) (by kernel_rfl) (by simp) ?_
    refine AllReadyH.cons rfl (fun K hK => ?_) AllReadyH.nil
    go_simp
    have hb38 := hb37.trans (hb8.mono hb37.size)
    have hO8 : RowC w8 w.heap.size (.slice a7 (cs.length + 1) c7) (cs ++ [c]) := by have h := ((hO7.later hb8).row.mono (B' := w.heap.size) HB3.out.size); simp only [List.nil_append, List.length_append, List.length_cons, List.length_nil, Nat.zero_add] at h; exact h
    obtain ⟨hE9, hb9⟩ := puzzle_stored (B := w.heap.size) HE8.out (by omega) (.int .i64 W) (.int .i64 H) (.slice a7 (cs.length + 1) c7)
    have hS9 : World.rangeAt (((w8.setCell ⟨w.heap.size + 1 + 1, 0, none⟩ (.int .i64 W)).setCell ⟨w.heap.size + 1 + 1, 1, none⟩ (.int .i64 H)).setCell ⟨w.heap.size + 1 + 1, 2, none⟩ (.slice a7 (cs.length + 1) c7)) w.heap.size 0 [.int .i64 W, .int .i64 H, .slice a cs.length cap] ∧ World.rangeAt (((w8.setCell ⟨w.heap.size + 1 + 1, 0, none⟩ (.int .i64 W)).setCell ⟨w.heap.size + 1 + 1, 1, none⟩ (.int .i64 H)).setCell ⟨w.heap.size + 1 + 1, 2, none⟩ (.slice a7 (cs.length + 1) c7)) (w.heap.size + 1) 0 [.int .i64 c.k, .int .i64 c.a, .int .i64 c.b] := ⟨rgA_heap hS8.1 ((away_setC (by omega)).trans ((away_setC (by omega)).trans (away_setC (by omega)))), rgA_heap hS8.2 ((away_setC (by omega)).trans ((away_setC (by omega)).trans (away_setC (by omega))))⟩
    refine hK.out _ _ hS9 (fun hH19 => ?_)
    clear hK K
    refine wpAnyH_ready (rs := [10]) (by kernel_rfl) (by simp) ?_
    refine AllReadyH.cons rfl (fun K hK => ?_) AllReadyH.nil
    go_simp
    refine hK.out _ _ hS9 (fun hH20 => ?_)
    clear hK K
    refine wpAnyH_done (by kernel_rfl) ?_ _
    have hbz := (HB3.out.trans (hb38.mono HB3.out.size)).trans hb9
    go_wp2_with fail
    exact bodyPost_ret (res_pair rfl _ _ _ _ _ _ _ _ rfl hE9 Try.underlying30 rfl infPuz rfl) rfl ⟨.slice a7 (cs.length + 1) c7, rfl, hO8.put3 HE8.out, hbz⟩
theorem core_AddClue (x y : Int) (c : Clu) (cs : List Clu) (hl : cs.length ≤ 1048576) : ∃ (X Y : Int) (R : Bool) (D : List Clu), D.length ≤ 2000000 ∧
    (∀ (a : Option Addr) (n k : Nat) (w : World), n = cs.length → n ≤ k → k ≤ 9223372036854775807 → At w a (flatC cs) → Calls Try.prog 6 #[.agg #[.int .i64 x, .int .i64 y, .slice a n k], valC c] w fun e w' => ∃ v, e = .returned (.tuple #[.agg #[.int .i64 X, .int .i64 Y, v], .bool R]) ∧ RowC w' w.heap.size v D ∧ Below w.heap.size w w') ∧
    (∀ (a : Option Addr) (n k : Nat) (w : World), n = cs.length → n ≤ k → k ≤ 9223372036854775807 → At w a (flatC cs) → Calls Try.prog 9 #[.agg #[.int .i64 x, .int .i64 y, .slice a n k], valC c] w fun e w' => ∃ v, e = .returned (.tuple #[.agg #[.int .i64 X, .int .i64 Y, v], .bool R]) ∧ RowC w' w.heap.size v D ∧ Below w.heap.size w w') := by
  cases h : pzB x y (cs ++ [c]) with
  | false =>
    refine ⟨0, 0, false, [], by simp, fun a n k w hn _ _ hat => (sAdd_no x y c a n k cs w hn hat hl h).mono ?_, fun a n k w hn _ _ hat => (iAdd_any x y c a n k cs w hn hat).mono ?_⟩
    · rintro e w' ⟨rfl, hb⟩
      exact ⟨_, rfl, RowC.nil _ _, hb⟩
    · rintro e w' ⟨X, Y, v, D, rfl, hR, hb, -, hno⟩
      obtain ⟨rfl, rfl, rfl⟩ := hno h
      rw [h]
      exact ⟨v, rfl, hR, hb⟩
  | true =>
    have hp := pzB_snoc h
    obtain ⟨W, H, rfl, rfl, _, _, _, _, h8, _⟩ := pz_yes hp
    refine ⟨W, H, true, cs ++ [c], by simp; omega, fun a n k w hn _ _ hat => sAdd_yes W H c a n k cs w hn hat hl h, fun a n k w hn _ _ hat => (iAdd_any W H c a n k cs w hn hat).mono ?_⟩
    rintro e w' ⟨X, Y, v, D, rfl, hR, hb, hy, -⟩
    obtain ⟨rfl, rfl, rfl⟩ := hy h
    rw [h]
    exact ⟨v, rfl, hR, hb⟩
end Go.Proofs.Ythlbplmghjaeoaa
