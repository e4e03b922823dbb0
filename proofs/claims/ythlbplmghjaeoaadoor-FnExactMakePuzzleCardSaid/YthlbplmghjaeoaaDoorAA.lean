/- Rows of clues that a call owns, with room: appends. -/
import Derived.Test.YthlbplmghjaeoaaDoorA4
import Derived.Deep.RegionLaw
import Derived.Maps.AppendAt
import Derived.StillTailTactics
import Derived.Deep.DeepCutAuto
import Derived.Outline
namespace Go.Proofs.YthlbplmghjaeoaaDoor
open Go.RowKit

/-- A row of clues that the call owns, all of its room. -/
def OwnsC (w : World) (B : Nat) (v : Value) (cs : List Clu) : Prop := w.ownsRow B 26 3 v cs.length (flatC cs)
theorem OwnsC.nil (w : World) (B : Nat) : OwnsC w B (.slice none 0 0) [] := World.ownsRow_nil _ _ _ _
theorem OwnsC.empty (w : World) (B : Nat) (hB : B ≤ w.heap.size) : OwnsC (w.alloc (.cells #[] 26)) B (.slice (some ⟨w.heap.size, 0, none⟩) 0 0) [] :=
  ⟨rfl, .inr ⟨w.heap.size, 0, #[], rfl, hB, heap_alloc_new w _, Nat.le_refl _, by simp [maxLen], rfl, rfl⟩⟩
theorem OwnsC.lt {w : World} {B : Nat} {v : Value} {cs : List Clu} (h : OwnsC w B v cs) : ∀ k, v.ownBlock = some k → B ≤ k ∧ k < w.heap.size := World.ownsRow.lt h
theorem OwnsC.shape {w : World} {B : Nat} {v : Value} {cs : List Clu} (h : OwnsC w B v cs) : ∃ a cap, v = .slice a cs.length cap := by
  obtain ⟨h1, ⟨rfl, h2⟩ | ⟨g, cap, cur, hv, _⟩⟩ := h
  · exact ⟨none, 0, by rw [h2]⟩
  · exact ⟨_, _, hv⟩
theorem OwnsC.later {w w' : World} {B : Nat} {v : Value} {cs : List Clu} (h : OwnsC w B v cs) (hb : Below w.heap.size w w') : OwnsC w' B v cs := by
  have hlt := h.lt
  obtain ⟨h1, h2⟩ := h
  refine ⟨h1, ?_⟩
  rcases h2 with h2 | ⟨g, cap, cur, hv, hg, hh, r⟩
  · exact .inl h2
  · refine .inr ⟨g, cap, cur, hv, hg, ?_, r⟩
    rw [hb.block g (hlt g (by rw [hv]; rfl)).2]; exact hh
theorem OwnsC.mono {w : World} {B B' : Nat} {v : Value} {cs : List Clu} (h : OwnsC w B v cs) (hB : B' ≤ B) : OwnsC w B' v cs := by
  obtain ⟨h1, h2⟩ := h
  refine ⟨h1, ?_⟩
  rcases h2 with h2 | ⟨g, cap, cur, hv, hg, r⟩
  · exact .inl h2
  · exact .inr ⟨g, cap, cur, hv, Nat.le_trans hB hg, r⟩
theorem OwnsC.row {w : World} {B : Nat} {v : Value} {cs : List Clu} (h : OwnsC w B v cs) : RowC w B v cs := by
  obtain ⟨h1, ⟨rfl, h2⟩ | ⟨g, cap, cur, rfl, hg, hh, hc, hm, hs, ht⟩⟩ := h
  · obtain rfl := List.eq_nil_of_length_eq_zero h2
    exact RowC.nil w B
  · refine ⟨_, _, rfl, hc, by unfold maxLen at hm; omega, (fun h => by cases h), fun ad had => ?_⟩
    obtain rfl : (⟨g, 0, none⟩ : Addr) = ad := by simpa using had
    exact ⟨g, rfl, hg, cur, hh, by rw [hs]; exact Nat.mul_le_mul_right _ hc, ht⟩
/-- append of a row of clues to a row that the call owns. -/
theorem run_appO (w : World) (B ty : Nat) (v : Value) (cs ms : List Clu) (hown : OwnsC w B v cs) (b : Option Addr) (m c : Nat) (hm : m = ms.length) (hat : At w b (flatC ms)) (hB : B ≤ w.heap.size) (hl : cs.length + ms.length ≤ 4000000) :
    ∃ v' w', (Builtin.append_ #[29, 29] ty #[v, .slice b m c]).run Tryd.prog w = .ok v' w' ∧ OwnsC w' B v' (cs ++ ms) ∧ Below B w w' := by
  subst hm
  have hc := infClu2
  cases hi : Tryd.prog.info? 26 with
  | none => rw [hi] at hc; cases hc
  | some i =>
    rw [hi] at hc
    simp only [Option.map_some, Option.some.injEq, Prod.mk.injEq] at hc
    obtain ⟨h1, h2, h3⟩ := hc
    cases hz : i.zero with
    | none => rw [hz] at h3; cases h3
    | some z =>
      rw [hz] at h3
      simp only [Option.map_some, Option.some.injEq] at h3
      cases b with
      | none =>
        obtain rfl : ms = [] := by
          cases ms with
          | nil => rfl
          | cons x r => obtain ⟨_, _, h, _⟩ := hat 0 (by simp); cases h
        have hsrc : Src Tryd.prog i.size 29 (.slice none ([] : List Clu).length c) 0 [] w := Src.ofNil w Tryd.underlying29 c
        obtain ⟨a1, c1, rfl⟩ := hown.shape
        have hle : cs.length ≤ c1 := by
          obtain ⟨_, ⟨h1, h2⟩ | ⟨g, cap, cur, hv, _, _, hc, _⟩⟩ := hown
          · omega
          · obtain ⟨_, rfl⟩ : a1 = some ⟨g, 0, none⟩ ∧ c1 = cap := by simpa using hv
            exact hc
        exact ⟨_, w, run_append_nothing w _ _ _ _ i Tryd.underlying29 hi a1 cs.length c1 hle _ hsrc, by rw [List.append_nil]; exact hown, Below.refl _ _⟩
      | some ad =>
        have hnews : ∀ j u, (flatC ms)[j]? = some u → w.cell? (ad.add j) = some u := by
          intro j u hu
          obtain ⟨hj, rfl⟩ := List.getElem?_eq_some_iff.1 hu
          obtain ⟨g, off, hab, hc⟩ := hat j hj
          obtain rfl : ad = ⟨g, off, none⟩ := by simpa using hab
          rw [Addr.add_lit]
          exact hc
        obtain ⟨v', w', hr, g2, g3, _⟩ := run_append_own (P := Tryd.prog) w B 29 ty 26 i z 3 24 Tryd.underlying29 hi hz h1 h2 h3 (by decide) v cs.length (flatC cs) hown ad ms.length c (flatC ms) (flatC_length ms) hnews (flatC_one ms) (by unfold maxLen; omega) (by omega) hB
        exact ⟨v', w', hr, by unfold OwnsC; rw [List.length_append, flatC_append]; exact g2, (Below.refl B w).grown g3 hB (fun k hk => (hown.lt k hk).1)⟩
theorem step_appO {ops : Array Oper} {o : Oper} {x : Act} {K : Act → World → Prop} {Q : Exit → Act → World → Prop} {S : Prop} {w : World} (hgd : o.guard = none) (s y : Operand)
    (ho : o.op = .call { callee := .builtin .append, args := #[s, y], argTypes := #[29, 29] })
    (B : Nat) (v : Value) (cs ms : List Clu) (hs : x.eval s = v) (hown : OwnsC w B v cs) (b : Option Addr) (m c : Nat) (hy : x.eval y = .slice b m c) (hm : m = ms.length) (hat : At w b (flatC ms)) (hB : B ≤ w.heap.size) (hl : cs.length + ms.length ≤ 4000000)
    (h : ∀ v' w', OwnsC w' B v' (cs ++ ms) → Below B w w' → K (x.put o.dst v') w') :
    if Region.wanted o (yielded ops x.tmps) = true then Oper.wp Tryd.prog o x w K Q else S := by
  have hw : Region.wanted o (yielded ops x.tmps) = true := by simp [Region.wanted, hgd]
  rw [if_pos hw]
  obtain ⟨v', w', hrun, h2, h3⟩ := run_appO w B o.type v cs ms hown b m c hm hat hB hl
  unfold Oper.wp execOp
  simp only [ho, resolve, invoke, builtin, Sem.run_bind, Sem.run_pure, Result.andThen_ok, List.map_toArray, List.map_cons, List.map_nil, hs, hy, hrun]
  exact h v' w' h2 h3
theorem eraseC (cs : List Clu) (k : Nat) : [] ++ cs.take k ++ cs.drop (k + 1) = cs.eraseIdx k := by rw [List.nil_append, List.eraseIdx_eq_take_drop_succ]
end Go.Proofs.YthlbplmghjaeoaaDoor
