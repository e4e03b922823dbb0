/- Puzzles by the program: more clues. -/
import Derived.Test.YthlbplmghjaeoaaDoorA3
import Derived.Deep.Upon
import Derived.Outline
namespace Go.Proofs.YthlbplmghjaeoaaDoor
open Go.RowKit

theorem infClu2 : (Tryd.prog.info? 26).map (fun i => (i.size, i.bytes, i.zero.map (·.cells.size))) = some (3, 24, some 3) := by kernel_rfl
/-- append of a row of clues to a row that has no room. -/
theorem run_appC (w : World) (B ty : Nat) (a : Option Addr) (n : Nat) (cs ms : List Clu) (hR : RowC w B (.slice a n n) cs) (b : Option Addr) (m c : Nat) (hm : m = ms.length) (hat : At w b (flatC ms)) (hB : B ≤ w.heap.size) (hl : cs.length + ms.length ≤ 4000000) :
    ∃ v' w', (Builtin.append_ #[29, 29] ty #[.slice a n n, .slice b m c]).run Tryd.prog w = .ok v' w' ∧ RowC w' B v' (cs ++ ms) ∧ Below w.heap.size w w' := by
  subst hm
  have hc := infClu2
  cases hi : Tryd.prog.info? 26 with
  | none => rw [hi] at hc; cases hc
  | some i =>
    rw [hi] at hc
    simp only [Option.map_some, Option.some.injEq, Prod.mk.injEq] at hc
    obtain ⟨h1, h2, h3⟩ := hc
    cases hz : i.zero with
    | none => rw [hz] at h3; cases h3
    | some z =>
      rw [hz] at h3
      simp only [Option.map_some, Option.some.injEq] at h3
      have hsrc : Src Tryd.prog i.size 29 (.slice b ms.length c) ms.length (flatC ms) w := by
        rw [h1]
        cases b with
        | none =>
          obtain rfl : ms = [] := by
            cases ms with
            | nil => rfl
            | cons x r => obtain ⟨_, _, h, _⟩ := hat 0 (by simp); cases h
          exact Src.ofNil w Tryd.underlying29 c
        | some ad =>
          refine Src.ofSlice w Tryd.underlying29 ad ms.length c (flatC ms) (flatC_length ms) (fun j u hu => ?_) (flatC_one ms)
          obtain ⟨hj, rfl⟩ := List.getElem?_eq_some_iff.1 hu
          obtain ⟨g, off, hab, hc⟩ := hat j hj
          obtain rfl : ad = ⟨g, off, none⟩ := by simpa using hab
          rw [Addr.add_lit]
          exact hc
      obtain ⟨a1, cap1, hv, g1, g2, g3, g4⟩ := id hR
      obtain ⟨rfl, rfl, rfl⟩ : a = a1 ∧ n = cs.length ∧ n = cap1 := by simpa using hv
      by_cases hms : ms = []
      · subst hms
        exact ⟨_, w, run_append_nothing w _ _ _ _ i Tryd.underlying29 hi a cs.length cs.length (Nat.le_refl _) _ hsrc, by rw [List.append_nil]; exact hR, Below.refl _ _⟩
      · have hpos : 0 < ms.length := List.length_pos_iff.2 hms
        have hold : (Builtin.firstCells i.size cs.length (.slice a cs.length cs.length)).run Tryd.prog w.drew = .ok (flatC cs).toArray w.drew := by
          rw [h1]
          cases a with
          | none =>
            obtain rfl : cs = [] := List.eq_nil_of_length_eq_zero (g3 rfl)
            exact run_firstCells_none w.drew 3 0 0 0
          | some ad =>
            have hra := hR.at
            refine run_firstCells_some w.drew 3 cs.length ad cs.length cs.length (flatC cs) (flatC_length cs) (fun j u hu => ?_)
            obtain ⟨hj, rfl⟩ := List.getElem?_eq_some_iff.1 hu
            obtain ⟨g, off, hab, hc⟩ := hra j hj
            obtain rfl : ad = ⟨g, off, none⟩ := by simpa using hab
            rw [Addr.add_lit]
            exact hc
        have hgc : cs.length + ms.length ≤ grownCap w (cs.length + ms.length) cs.length 26 ∧ grownCap w (cs.length + ms.length) cs.length 26 ≤ 9223372036854775807 := ⟨grownCap_ge .., by have := grownCap_le_maxLen w (cs.length + ms.length) cs.length 26 (by unfold maxLen; omega); unfold maxLen at this; exact this⟩
        refine ⟨_, _, run_append_grow_src w _ _ _ _ i z Tryd.underlying29 hi hz a cs.length cs.length (flatC cs) hold _ ms.length (flatC ms) hsrc (by omega) (by omega) (growslice_fits (by omega) (by rw [h2]; omega)), ?_, ?_⟩
        · refine ⟨_, _, by rw [List.length_append], by rw [List.length_append]; exact hgc.1, hgc.2, (fun h => by cases h), fun ad had => ?_⟩
          obtain rfl : (⟨w.heap.size, 0, none⟩ : Addr) = ad := by simpa using had
          refine ⟨w.heap.size, rfl, hB, _, heap_alloc_new w.drew _, ?_, ?_⟩
          · simp; omega
          · rw [flatC_append]
            have hl3 : (cs ++ ms).length * 3 = (flatC cs ++ flatC ms).length := by simp; omega
            rw [hl3, Array.toList_append, List.toList_toArray]
            exact List.take_left
        · exact ((Below.refl _ _).drew).alloc (Nat.le_refl _) _
theorem wpList_appC {ops : Array Oper} {rest : List Oper} {o : Oper} {x : Act} {Q : Exit → Act → World → Prop} {w : World} (hgd : o.guard = none) (s y : Operand)
    (ho : o.op = .call { callee := .builtin .append, args := #[s, y], argTypes := #[29, 29] })
    (B : Nat) (a : Option Addr) (n : Nat) (cs ms : List Clu) (hs : x.eval s = .slice a n n) (hR : RowC w B (.slice a n n) cs) (b : Option Addr) (m c : Nat) (hy : x.eval y = .slice b m c) (hm : m = ms.length) (hat : At w b (flatC ms)) (hB : B ≤ w.heap.size) (hl : cs.length + ms.length ≤ 4000000)
    (h : ∀ v' w', RowC w' B v' (cs ++ ms) → Below w.heap.size w w' → wpList Tryd.prog ops Q rest (x.put o.dst v') w') : wpList Tryd.prog ops Q (o :: rest) x w := by
  refine wpList_plain hgd fun K hK => ?_
  obtain ⟨v', w', hrun, h2, h3⟩ := run_appC w B o.type a n cs ms hR b m c hm hat hB hl
  unfold Oper.wp execOp
  simp only [ho, resolve, invoke, builtin, Sem.run_bind, Sem.run_pure, Result.andThen_ok, List.map_toArray, List.map_cons, List.map_nil, hs, hy, hrun]
  exact hK _ _ (h v' w' h2 h3)
theorem field_clues (x y v : Value) (a : Option Addr) (n c : Nat) (hv : v = .slice a n c) (w : World) : (Instr.field 31 (.agg #[x, y, v]) 2).run Tryd.prog w = .ok v w := by
  subst hv
  simp [Instr.field, run_underlying Tryd.underlying31, part, Tryd.isAgg29, Tryd.sizeOf29, asAgg]
set_option maxRecDepth 100000 in
set_option maxHeartbeats 1600000 in
theorem with_any (W H : Int) (B n cap : Nat) (a : Option Addr) (cs ms : List Clu) (b : Option Addr) (m c : Nat) (w : World) (hR : RowC w B (.slice a n cap) cs) (hm : m = ms.length) (hat : At w b (flatC ms)) (hB : B ≤ w.heap.size) (hl : cs.length + ms.length ≤ 4000000) :
    Calls Tryd.prog 42 #[.agg #[.int .i64 W, .int .i64 H, .slice a n cap], .slice b m c] w fun e w' => ∃ v', e = .returned (.agg #[.int .i64 W, .int .i64 H, v']) ∧ RowC w' B v' (cs ++ ms) ∧ Below w.heap.size w w' := by
  subst hm
  obtain ⟨a1, cap1, hv⟩ := hR.shape
  obtain ⟨rfl, rfl, rfl⟩ : a = a1 ∧ n = cs.length ∧ cap = cap1 := by simpa using hv
  have hb : Below w.heap.size w ((w.alloc (.cells #[.int .i64 W, .int .i64 H, .slice a cs.length cap] 31)).alloc (.cells #[.int .i64 0, .int .i64 0, .slice none 0 0] 31)) := ((Below.refl _ _).alloc (Nat.le_refl _) _).alloc (by simp) _
  have hG := blk0 w (.cells #[.int .i64 W, .int .i64 H, .slice a cs.length cap] 31) (.cells #[.int .i64 0, .int .i64 0, .slice none 0 0] 31)
  have hE := blk1 w (.cells #[.int .i64 W, .int .i64 H, .slice a cs.length cap] 31) (.cells #[.int .i64 0, .int .i64 0, .slice none 0 0] 31)
  have hP := fun w hR => part_any W H B cs.length cap 0 cs.length a cs w hR (Nat.zero_le _) (Nat.le_refl _)
  have HP := Lib.hid hP
  have HG := Lib.hid hG
  have HE := Lib.hid hE
  have hR1 := hR.below hb
  have hA1 := hat.later rfl hb
  clear hG hE hP hv
  go_enter Tryd.func42, Tryd.ntmps42
  go_wp2_with fail
  generalize (w.alloc (.cells #[.int .i64 W, .int .i64 H, .slice a cs.length cap] 31)).alloc (.cells #[.int .i64 0, .int .i64 0, .slice none 0 0] 31) = w1 at *
  refine (HP.out _ hR1).mono ?_
  rintro e w2 ⟨a2, rfl, hb2, _, hR2⟩
  have hR2 := hR2 (by simp)
  rw [List.take_length, Nat.sub_zero] at hR2
  rw [Nat.sub_zero]
  have hA2 := hA1.later rfl hb2
  have hG2 := (hb2.block _ (block_lt HG.out)).trans HG.out
  have hE2 := (hb2.block _ (block_lt HE.out)).trans HE.out
  have hb02 := hb.trans (hb2.mono hb.size)
  clear hR1 hA1 hb2 hb HP hR hat
  clear HG HE
  have hfc := fun w => field_clues (.int .i64 W) (.int .i64 H) _ a2 cs.length cs.length rfl w
  have HG2 := Lib.hid hG2
  have HE2 := Lib.hid hE2
  clear hG2 hE2
  go_wp2_with (at_builtin; refine wpList_appC rfl _ _ rfl B _ _ cs ms rfl hR2 b _ c rfl rfl hA2 (by have := hb02.size; omega) hl ?_; intro v3 w3 hR3 hb3; obtain ⟨a3, c3, hv3⟩ := hR3.shape; subst hv3; have hG3 := (hb3.block _ (block_lt HG2.out)).trans HG2.out; have hE3 := (hb3.block _ (block_lt HE2.out)).trans HE2.out; have hf0 := cell_of_block hG3 0; have hf1 := cell_of_block hG3 1; have hf2 := cell_of_block hG3 2; have hz0 := cell_of_block hE3 0; have hz1 := cell_of_block hE3 1; have hz2 := cell_of_block hE3 2; have hgf := frozen_of_block hG3; have hef := frozen_of_block hE3; simp at hf0 hf1 hf2 hz0 hz1 hz2; have HG3 := Lib.hid hG3; have HE3 := Lib.hid hE3; clear hG3 hE3)
  have hE4 := (away_setC (w := w3) (g := w.heap.size) (j := 2) (v := .slice a3 (cs.length + ms.length) c3) (show w.heap.size + 1 ≠ w.heap.size by omega)).trans HE3.out
  obtain ⟨hE5, hb5⟩ := puzzle_stored (B := w.heap.size) hE4 (by omega) (.int .i64 W) (.int .i64 H) (.slice a3 (cs.length + ms.length) c3)
  rw [List.length_append] at hR3
  exact bodyPost_ret (results_cell_row rfl _ _ _ _ _ _ _ rfl hE5 Tryd.underlying31 rfl infPuz) rfl ⟨_, rfl, (hR3.put HG3.out).put3 hE4, ((hb02.trans (hb3.mono hb02.size)).trans (Below.set _ _)).trans hb5⟩
end Go.Proofs.YthlbplmghjaeoaaDoor
