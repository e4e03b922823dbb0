/- Clues and puzzles that come in: what a walk sees of them. -/
import Derived.Test.YthlbplmghjaeoaaFin
import Derived.Test.YthlbplmghjaeoaaA1
import Derived.Deep.Slices
import Derived.Deep.Strs
import Derived.Lib.SmallJoins
import Derived.Outline
namespace Go.Proofs.Ythlbplmghjaeoaa
open Go.RowKit Go.WideShapes Go.ChangeShapes Go.Deep Go.Joins

theorem oneClue : Try.prog.cellsOf 26 = 3 := by kernel_rfl
set_option maxRecDepth 100000 in
theorem clue_fields {H : Type} {enc : TypeId × Value → H} {W : World} {base : Nat} {sp : Nat → Bool} {held : Bool} {fuel : Nat} {cs : List Value} {x : DataW H × List MemPlace} (h : DataW.trod enc Try.prog W base sp held fuel 26 cs = some x) :
    ∃ c : Clu, cs = encC c := by
  obtain ⟨y0, y1, y2, n, _, hl, h0, h1, h2⟩ := trod_struct3 Try.underlying26 h
  have hl3 : cs.length = 3 := hl.trans oneClue
  match cs, hl3 with
  | [c0, c1, c2], _ =>
    obtain ⟨a, ha, _⟩ := DataW.trod_int Try.underlying3 h0
    obtain ⟨b, hb, _⟩ := DataW.trod_int Try.underlying3 h1
    obtain ⟨c, hc, _⟩ := DataW.trod_int Try.underlying3 h2
    have e : Try.prog.cellsOf 3 = 1 := by kernel_rfl
    simp [e] at ha hb hc
    subst ha; subst hb; subst hc
    exact ⟨⟨a, b, c⟩, rfl⟩
set_option maxRecDepth 100000 in
theorem open_clue {H : Type} {enc : TypeId × Value → H} {W : World} {base : Nat} {sp : Nat → Bool} {held : Bool} {r : Reach} {b0 : Nat} {v : Value} {d : DataW H} {p : List MemPlace} (hv : Value.okWide Try.prog W r b0 26 v) (h : DataW.Trod enc Try.prog W base sp held 26 v d p) :
    ∃ c : Clu, v = valC c := by
  obtain ⟨v0, v1, v2, y0, y1, y2, n, rfl, _, _, h0, h1, h2⟩ := open_agg3 Try.underlying26 (by kernel_rfl) oneClue hv h
  obtain ⟨a, ha, _⟩ := DataW.trod_int Try.underlying3 h0
  obtain ⟨b, hb, _⟩ := DataW.trod_int Try.underlying3 h1
  obtain ⟨c, hc, _⟩ := DataW.trod_int Try.underlying3 h2
  simp at ha hb hc
  subst ha; subst hb; subst hc
  exact ⟨⟨a, b, c⟩, rfl⟩
set_option maxRecDepth 100000 in
theorem open_clues {H : Type} {enc : TypeId × Value → H} {W : World} {base : Nat} {held : Bool} {sp : Nat → Bool} {fuel : Nat} {v : Value} {x : DataW H × List MemPlace} (h : DataW.trod enc Try.prog W base sp held fuel 22 [v] = some x) :
    ∃ (a : Option Addr) (cap : Nat) (cs : List Clu), v = .slice a cs.length cap ∧ At W a (flatC cs) ∧ cs.length ≤ 9223372036854775807 := by
  rcases open_slice Try.underlying22 h with ⟨hcs, _⟩ | ⟨a, len, cap, m, n, D, Pl, hcs, hb, hl, hm, hmm, hx, hi⟩
  · simp at hcs
    subst hcs
    exact ⟨none, 0, [], rfl, fun k hk => by simp [flatC] at hk, by simp⟩
  · simp at hcs
    subst hcs
    have hml : len ≤ m := by rw [hmm]; split <;> omega
    rw [oneClue] at hi
    have hC : ∀ i : Nat, i < len → ∃ c : Clu, ∀ j, j < 3 → W.cell? (a.add (i * 3 + j)) = (encC c)[j]? := fun i hil => by
      obtain ⟨cs', hc, ht⟩ := hi i (by omega)
      obtain ⟨c, rfl⟩ := clue_fields ht
      obtain ⟨_, _, hat⟩ := World.cells?_some hc
      exact ⟨c, fun j hj => by rw [← Go.Deep.add_add]; exact hat j hj⟩
    have hex : ∀ k, k ≤ len → ∃ cs : List Clu, cs.length = k ∧ ∀ i (hi : i < cs.length), ∀ j, j < 3 → W.cell? (a.add (i * 3 + j)) = (encC cs[i])[j]? := by
      intro k
      induction k with
      | zero => exact fun _ => ⟨[], rfl, fun i hi => by simp at hi⟩
      | succ k ih =>
        intro hk
        obtain ⟨cs, hl, hcs⟩ := ih (by omega)
        obtain ⟨c, hc⟩ := hC k (by omega)
        refine ⟨cs ++ [c], by simp [hl], fun i hi j hj => ?_⟩
        by_cases hik : i < cs.length
        · rw [List.getElem_append_left hik]; exact hcs i hik j hj
        · obtain rfl : i = cs.length := by simp at hi; omega
          rw [List.getElem_append_right (Nat.le_refl _)]
          simp only [Nat.sub_self, List.getElem_cons_zero]
          rw [hl]; exact hc j hj
    obtain ⟨cs, rfl, hcs⟩ := hex len (Nat.le_refl _)
    refine ⟨some a, cap, cs, rfl, fun k hk => ?_, by unfold maxLen at hm; omega⟩
    rw [flatC_length] at hk
    obtain ⟨b, off, spot⟩ := a
    have hspot : spot = none := by
      have h0 := hcs 0 (by omega) 0 (by decide)
      simpa [Addr.add] using World.cell?_spot h0
    subst hspot
    refine ⟨b, off, rfl, ?_⟩
    have hk3 : k / 3 < cs.length := by omega
    have h := hcs (k / 3) hk3 (k % 3) (by omega)
    have hg := flatC_get cs (k / 3) (k % 3) hk3 (by omega)
    rw [show k / 3 * 3 + k % 3 = k by omega] at h hg
    rw [WideShapes.add_plain] at h
    rw [h, ← hg]
    exact List.getElem?_eq_getElem _
set_option maxRecDepth 100000 in
theorem open_puzzle {H : Type} {enc : TypeId × Value → H} {W : World} {base : Nat} {sp : Nat → Bool} {held : Bool} {r : Reach} {b0 : Nat} {v : Value} {d : DataW H} {p : List MemPlace} (hv : Value.okWide Try.prog W r b0 24 v) (h : DataW.Trod enc Try.prog W base sp held 24 v d p) :
    ∃ (x y : Int) (a : Option Addr) (cap : Nat) (cs : List Clu), v = .agg #[.int .i64 x, .int .i64 y, .slice a cs.length cap] ∧ At W a (flatC cs) ∧ cs.length ≤ 9223372036854775807 := by
  obtain ⟨v0, v1, v2, y0, y1, y2, n, rfl, _, _, h0, h1, h2⟩ := open_agg3 Try.underlying24 (by kernel_rfl) (by kernel_rfl) hv h
  obtain ⟨a, ha, _⟩ := DataW.trod_int Try.underlying3 h0
  obtain ⟨b, hb, _⟩ := DataW.trod_int Try.underlying3 h1
  simp at ha hb
  subst ha; subst hb
  obtain ⟨a2, cap, cs, rfl, hat, hl⟩ := open_clues h2
  exact ⟨a, b, a2, cap, cs, rfl, hat, hl⟩
end Go.Proofs.Ythlbplmghjaeoaa
