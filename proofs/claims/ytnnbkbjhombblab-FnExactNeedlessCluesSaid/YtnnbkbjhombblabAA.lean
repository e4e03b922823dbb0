/- Rows of clues that a call owns, with room: appends. -/
import Derived.Test.YtnnbkbjhombblabA4
import Derived.Deep.RegionLaw
import Derived.Maps.AppendAt
import Derived.StillTailTactics
import Derived.Deep.DeepCutAuto
import Derived.Outline
namespace Go.Proofs.Ytnnbkbjhombblab
open Go.RowKit

/-- A row of clues that the call owns, all of its room. -/
def OwnsC (w : World) (B : Nat) (v : Value) (cs : List Clu) : Prop := w.ownsRow B 46 3 v cs.length (flatC cs)
theorem OwnsC.nil (w : World) (B : Nat) : OwnsC w B (.slice none 0 0) [] := World.ownsRow_nil _ _ _ _
theorem OwnsC.empty (w : World) (B : Nat) (hB : B ≤ w.heap.size) : OwnsC (w.alloc (.cells #[] 46)) B (.slice (some ⟨w.heap.size, 0, none⟩) 0 0) [] :=
  ⟨rfl, .inr ⟨w.heap.size, 0, #[], rfl, hB, heap_alloc_new w _, Nat.le_refl _, by simp [maxLen], rfl, rfl⟩⟩
theorem OwnsC.lt {w : World} {B : Nat} {v : Value} {cs : List Clu} (h : OwnsC w B v cs) : ∀ k, v.ownBlock = some k → B ≤ k ∧ k < w.heap.size := World.ownsRow.lt h
theorem OwnsC.shape {w : World} {B : Nat} {v : Value} {cs : List Clu} (h : OwnsC w B v cs) : ∃ a cap, v = .slice a cs.length cap := by
  obtain ⟨h1, ⟨rfl, h2⟩ | ⟨g, cap, cur, hv, _⟩⟩ := h
  · exact ⟨none, 0, by rw [h2]⟩
  · exact ⟨_, _, hv⟩
theorem OwnsC.later {w w' : World} {B : Nat} {v : Value} {cs : List Clu} (h : OwnsC w B v cs) (hb : Below w.heap.size w w') : OwnsC w' B v cs := by
  have hlt := h.lt
  obtain ⟨h1, h2⟩ := h
  refine ⟨h1, ?_⟩
  rcases h2 with h2 | ⟨g, cap, cur, hv, hg, hh, r⟩
  · exact .inl h2
  · refine .inr ⟨g, cap, cur, hv, hg, ?_, r⟩
    rw [hb.block g (hlt g (by rw [hv]; rfl)).2]; exact hh
theorem OwnsC.mono {w : World} {B B' : Nat} {v : Value} {cs : List Clu} (h : OwnsC w B v cs) (hB : B' ≤ B) : OwnsC w B' v cs := by
  obtain ⟨h1, h2⟩ := h
  refine ⟨h1, ?_⟩
  rcases h2 with h2 | ⟨g, cap, cur, hv, hg, r⟩
  · exact .inl h2
  · exact .inr ⟨g, cap, cur, hv, Nat.le_trans hB hg, r⟩
theorem OwnsC.row {w : World} {B : Nat} {v : Value} {cs : List Clu} (h : OwnsC w B v cs) : RowC w B v cs := by
  obtain ⟨h1, ⟨rfl, h2⟩ | ⟨g, cap, cur, rfl, hg, hh, hc, hm, hs, ht⟩⟩ := h
  · obtain rfl := List.eq_nil_of_length_eq_zero h2
    exact RowC.nil w B
  · refine ⟨_, _, rfl, hc, by unfold maxLen at hm; omega, (fun h => by cases h), fun ad had => ?_⟩
    obtain rfl : (⟨g, 0, none⟩ : Addr) = ad := by simpa using had
    exact ⟨g, rfl, hg, cur, hh, by rw [hs]; exact Nat.mul_le_mul_right _ hc, ht⟩
/-- append of a row of clues to a row that the call owns. -/
theorem run_appO (w : World) (B ty : Nat) (v : Value) (cs ms : List Clu) (hown : OwnsC w B v cs) (b : Option Addr) (m c : Nat) (hm : m = ms.length) (hat : At w b (flatC ms)) (hB : B ≤ w.heap.size) (hl : cs.length + ms.length ≤ 4000000) :
    ∃ v' w', (Builtin.append_ #[28, 28] ty #[v, .slice b m c]).run Try.prog w = .ok v' w' ∧ OwnsC w' B v' (cs ++ ms) ∧ Below B w w' := by
  subst hm
  have hc := infClu2
  cases hi : Try.prog.info? 46 with
  | none => rw [hi] at hc; cases hc
  | some i =>
    rw [hi] at hc
    simp only [Option.map_some, Option.some.injEq, Prod.mk.injEq] at hc
    obtain ⟨h1, h2, h3⟩ := hc
    cases hz : i.zero with
    | none => rw [hz] at h3; cases h3
    | some z =>
      rw [hz] at h3
      simp only [Option.map_some, Option.some.injEq] at h3
      cases b with
      | none =>
        obtain rfl : ms = [] := by
          cases ms with
          | nil => rfl
          | cons x r => obtain ⟨_, _, h, _⟩ := hat 0 (by simp); cases h
        have hsrc : Src Try.prog i.size 28 (.slice none ([] : List Clu).length c) 0 [] w := Src.ofNil w Try.underlying28 c
        obtain ⟨a1, c1, rfl⟩ := hown.shape
        have hle : cs.length ≤ c1 := by
          obtain ⟨_, ⟨h1, h2⟩ | ⟨g, cap, cur, hv, _, _, hc, _⟩⟩ := hown
          · omega
          · obtain ⟨_, rfl⟩ : a1 = some ⟨g, 0, none⟩ ∧ c1 = cap := by simpa using hv
            exact hc
        exact ⟨_, w, run_append_nothing w _ _ _ _ i Try.underlying28 hi a1 cs.length c1 hle _ hsrc, by rw [List.append_nil]; exact hown, Below.refl _ _⟩
      | some ad =>
        have hnews : ∀ j u, (flatC ms)[j]? = some u → w.cell? (ad.add j) = some u := by
          intro j u hu
          obtain ⟨hj, rfl⟩ := List.getElem?_eq_some_iff.1 hu
          obtain ⟨g, off, hab, hc⟩ := hat j hj
          obtain rfl : ad = ⟨g, off, none⟩ := by simpa using hab
          rw [Addr.add_lit]
          exact hc
        obtain ⟨v', w', hr, g2, g3, _⟩ := run_append_own (P := Try.prog) w B 28 ty 46 i z 3 24 Try.underlying28 hi hz h1 h2 h3 (by decide) v cs.length (flatC cs) hown ad ms.length c (flatC ms) (flatC_length ms) hnews (flatC_one ms) (by unfold maxLen; omega) (by omega) hB
        exact ⟨v', w', hr, by unfold OwnsC; rw [List.length_append, flatC_append]; exact g2, (Below.refl B w).grown g3 hB (fun k hk => (hown.lt k hk).1)⟩
theorem step_appO {ops : Array Oper} {o : Oper} {x : Act} {K : Act → World → Prop} {Q : Exit → Act → World → Prop} {S : Prop} {w : World} (hgd : o.guard = none) (s y : Operand)
    (ho : o.op = .call { callee := .builtin .append, args := #[s, y], argTypes := #[28, 28] })
    (B : Nat) (v : Value) (cs ms : List Clu) (hs : x.eval s = v) (hown : OwnsC w B v cs) (b : Option Addr) (m c : Nat) (hy : x.eval y = .slice b m c) (hm : m = ms.length) (hat : At w b (flatC ms)) (hB : B ≤ w.heap.size) (hl : cs.length + ms.length ≤ 4000000)
    (h : ∀ v' w', OwnsC w' B v' (cs ++ ms) → Below B w w' → K (x.put o.dst v') w') :
    if Region.wanted o (yielded ops x.tmps) = true then Oper.wp Try.prog o x w K Q else S := by
  have hw : Region.wanted o (yielded ops x.tmps) = true := by simp [Region.wanted, hgd]
  rw [if_pos hw]
  obtain ⟨v', w', hrun, h2, h3⟩ := run_appO w B o.type v cs ms hown b m c hm hat hB hl
  unfold Oper.wp execOp
  simp only [ho, resolve, invoke, builtin, Sem.run_bind, Sem.run_pure, Result.andThen_ok, List.map_toArray, List.map_cons, List.map_nil, hs, hy, hrun]
  exact h v' w' h2 h3
theorem eraseC (cs : List Clu) (k : Nat) : [] ++ cs.take k ++ cs.drop (k + 1) = cs.eraseIdx k := by rw [List.nil_append, List.eraseIdx_eq_take_drop_succ]
set_option maxRecDepth 100000 in
set_option maxHeartbeats 1600000 in
theorem pzWithout_any (a : Option Addr) (n cap k : Nat) (cs : List Clu) (w : World) (hn : n = cs.length) (hcap : n ≤ cap) (hcm : cap ≤ 9223372036854775807) (hat : At w a (flatC cs)) (hk : k < n) (hl : n ≤ 1048576) :
    Calls Try.prog 37 #[.slice a n cap, .int .i64 k] w fun e w' => ∃ v, e = .returned v ∧ OwnsC w' w.heap.size v (cs.eraseIdx k) ∧ Below w.heap.size w w' := by
  subst hn
  obtain ⟨g, off, rfl, hgl, _⟩ := clu_at hat k hk
  have hat1 : At w (some ⟨g, off, none⟩) (flatC (cs.take k)) := by
    have e : flatC cs = [] ++ flatC (cs.take k) ++ flatC (cs.drop k) := by rw [List.nil_append, ← flatC_append, List.take_append_drop]
    rw [e] at hat
    exact at_sub hat
  have hat2 : At w (some ⟨g, off + (k + 1) * 3, none⟩) (flatC (cs.drop (k + 1))) := by
    have e : flatC cs = flatC (cs.take (k + 1)) ++ flatC (cs.drop (k + 1)) ++ [] := by rw [List.append_nil, ← flatC_append, List.take_append_drop]
    rw [e] at hat
    have := at_sub hat
    rwa [flatC_length, List.length_take, Nat.min_eq_left (by omega)] at this
  have hl1 : (cs.take k).length = k := by rw [List.length_take]; omega
  have hl2 : (cs.drop (k + 1)).length = cs.length - (k + 1) := by rw [List.length_drop]
  have HE := Lib.hid (eraseC cs k)
  have HA1 := Lib.hid hat1
  have HA2 := Lib.hid hat2
  have wr1 : IntKind.i64.wrap ((k : Int) + 1) = (k : Int) + 1 := IntWalk.i64_in _ ⟨by omega, by omega⟩
  have iz : (0 : Int) ≤ (k : Int) + 1 := by omega
  have iy : (k : Int) + 1 ≤ (cs.length : Int) := by omega
  have HL1 := Lib.hid hl1
  have HL2 := Lib.hid hl2
  have ik : k ≤ cap := by omega
  have ik1 : k + 1 ≤ cs.length := by omega
  have hw1 : Below w.heap.size w (w.alloc (.cells #[] 46)).drew := ((Below.refl _ _).alloc (Nat.le_refl _) _).drew
  have hO1 : OwnsC (w.alloc (.cells #[] 46)).drew w.heap.size (.slice (some ⟨w.heap.size, 0, none⟩) 0 0) [] := OwnsC.empty w w.heap.size (Nat.le_refl _)
  clear hat hat1 hat2 hl1 hl2
  by_cases hz : cap = k + 1
  · subst hz
    have ik2 : (k : Int) ≤ (k : Int) + 1 := by omega
    have HA3 : Hid (At w (some ⟨g, off, none⟩) (flatC (cs.drop (k + 1)))) := by
      rw [List.drop_eq_nil_of_le (by omega)]
      exact fun j hj => by simp [flatC] at hj
    go_enter Try.func37, Try.ntmps37
    go_upto_region 1 with fail
    go_region_law (first
      | (refine step_appO rfl _ _ rfl w.heap.size _ [] (cs.take k) rfl hO1 (some ⟨g, off, none⟩) _ _ rfl HL1.out.symm (HA1.out.later rfl hw1) hw1.size (by rw [HL1.out]; simp; omega) ?_; intro v1 w2 hO2 hb2)
      | (refine step_appO rfl _ _ rfl w.heap.size v1 ([] ++ cs.take k) (cs.drop (k + 1)) rfl hO2 (some ⟨g, off, none⟩) _ _ rfl (by rw [HL2.out] <;> omega) (HA3.out.later rfl (hw1.trans hb2)) (hw1.trans hb2).size (by simp; omega) ?_; intro v3 w4 hO4 hb4))
    all_goals
      rw [HE.out] at hO4
      go_wp2_with fail
      go_ret
      exact ⟨_, rfl, hO4, (hw1.trans hb2).trans hb4⟩
  · go_enter Try.func37, Try.ntmps37
    go_upto_region 1 with fail
    go_region_law (first
      | (refine step_appO rfl _ _ rfl w.heap.size _ [] (cs.take k) rfl hO1 (some ⟨g, off, none⟩) _ _ rfl HL1.out.symm (HA1.out.later rfl hw1) hw1.size (by rw [HL1.out]; simp; omega) ?_; intro v1 w2 hO2 hb2)
      | (refine step_appO rfl _ _ rfl w.heap.size v1 ([] ++ cs.take k) (cs.drop (k + 1)) rfl hO2 (some ⟨g, off + (k + 1) * 3, none⟩) _ _ rfl (by rw [HL2.out] <;> omega) (HA2.out.later rfl (hw1.trans hb2)) (hw1.trans hb2).size (by simp; omega) ?_; intro v3 w4 hO4 hb4))
    all_goals
      rw [HE.out] at hO4
      go_wp2_with fail
      go_ret
      exact ⟨_, rfl, hO4, (hw1.trans hb2).trans hb4⟩
end Go.Proofs.Ytnnbkbjhombblab
