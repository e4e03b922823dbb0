/- Groups of mines: rows of spots that a call owns. -/
import Derived.Test.YthlbplmghjaeoafQ2
import Derived.Test.YthlbplmghjaeoafGY1
import Derived.Outline
namespace Go.Proofs.Ythlbplmghjaeoaf
open Go.RowKit

def cells2 (L : List (Nat × Nat)) : List Value := L.flatMap fun p => [.int .i64 (p.1 : Int), .int .i64 (p.2 : Int)]
theorem cells2_cons (p : Nat × Nat) (L : List (Nat × Nat)) : cells2 (p :: L) = .int .i64 (p.1 : Int) :: .int .i64 (p.2 : Int) :: cells2 L := rfl
@[simp] theorem cells2_length : ∀ L : List (Nat × Nat), (cells2 L).length = L.length * 2
  | [] => rfl
  | p :: L => by rw [cells2_cons, List.length_cons, List.length_cons, cells2_length L, List.length_cons]; omega
theorem cells2_append (L M : List (Nat × Nat)) : cells2 (L ++ M) = cells2 L ++ cells2 M := by simp [cells2]
theorem cells2_at : ∀ (L : List (Nat × Nat)) (k : Nat) (h : k < L.length), (cells2 L)[k * 2]? = some (.int .i64 (L[k].1 : Int)) ∧ (cells2 L)[k * 2 + 1]? = some (.int .i64 (L[k].2 : Int))
  | p :: L, 0, _ => ⟨rfl, rfl⟩
  | p :: L, k + 1, h => by
    have ih := cells2_at L k (by simpa using h)
    rw [cells2_cons, show (k + 1) * 2 = k * 2 + 1 + 1 by omega]
    simpa using ih
theorem cells2_one (L : List (Nat × Nat)) : ∀ u ∈ cells2 L, u.oneCell' = true := by
  intro u hu
  obtain ⟨p, _, h⟩ := List.mem_flatMap.1 hu
  simp at h
  rcases h with rfl | rfl <;> rfl

/-- The call owns a row of the spots L from block B on. -/
def Own2 (w : World) (B : Nat) (v : Value) (L : List (Nat × Nat)) : Prop := w.ownsRow B 77 2 v L.length (cells2 L)
theorem Own2.nil (w : World) (B : Nat) : Own2 w B (.slice none 0 0) [] := World.ownsRow_nil _ _ _ _
theorem Own2.lt {w : World} {B : Nat} {v : Value} {L : List (Nat × Nat)} (h : Own2 w B v L) : ∀ k, v.ownBlock = some k → B ≤ k ∧ k < w.heap.size := World.ownsRow.lt h
theorem Own2.shape {w : World} {B : Nat} {v : Value} {L : List (Nat × Nat)} (h : Own2 w B v L) : ∃ a cap, v = .slice a L.length cap := by
  obtain ⟨h1, h2⟩ := h
  rcases h2 with ⟨hv, hn⟩ | ⟨g, cap, cur, hv, r⟩
  · exact ⟨none, 0, by rw [hv, hn]⟩
  · exact ⟨_, cap, hv⟩
theorem Own2.below {w w' : World} {B : Nat} {v : Value} {L : List (Nat × Nat)} (h : Own2 w B v L) {C : Nat} (hC : ∀ k, v.ownBlock = some k → k < C) (hb : Below C w w') : Own2 w' B v L := by
  obtain ⟨h1, h2⟩ := h
  refine ⟨h1, ?_⟩
  rcases h2 with h2 | ⟨g, cap, cur, hv, hg, hh, r⟩
  · exact .inl h2
  · exact .inr ⟨g, cap, cur, hv, hg, by rw [hb.block g (hC g (by rw [hv]; rfl))]; exact hh, r⟩
theorem Own2.later {w w' : World} {B : Nat} {v : Value} {L : List (Nat × Nat)} (h : Own2 w B v L) (hb : Below w.heap.size w w') : Own2 w' B v L := h.below (fun k hk => (h.lt k hk).2) hb
theorem Own2.mono {w : World} {B B' : Nat} {v : Value} {L : List (Nat × Nat)} (h : Own2 w B v L) (hB : B' ≤ B) : Own2 w B' v L := by
  obtain ⟨h1, h2⟩ := h
  refine ⟨h1, ?_⟩
  rcases h2 with h2 | ⟨g, cap, cur, hv, hg, r⟩
  · exact .inl h2
  · exact .inr ⟨g, cap, cur, hv, by omega, r⟩
theorem Own2.touch {b B : Nat} {w w' : World} {v : Value} {L : List (Nat × Nat)} (h : Own2 w B v L) (ht : Touch b w w') (hb : ∀ j, v.ownBlock = some j → j ≠ b) : Own2 w' B v L := by
  refine World.ownsRow.kept h ht ?_
  cases hv : v.ownBlock with
  | none => exact .inl rfl
  | some k => exact .inr (by simp; exact hb k hv)
theorem Own2.at {w : World} {B : Nat} {a : Option Addr} {n cap : Nat} {L : List (Nat × Nat)} (h : Own2 w B (.slice a n cap) L) (k : Nat) (hk : k < L.length) :
    ∃ g, a = some ⟨g, 0, none⟩ ∧ w.cell? ⟨g, k * 2, none⟩ = some (.int .i64 (L[k].1 : Int)) ∧ w.cell? ⟨g, k * 2 + 1, none⟩ = some (.int .i64 (L[k].2 : Int)) := by
  obtain ⟨c1, c2⟩ := cells2_at L k hk
  have hs := h
  obtain ⟨h1, h2⟩ := h
  rcases h2 with ⟨hv, hn⟩ | ⟨g, cap', cur, hv, r⟩
  · omega
  · obtain ⟨rfl, rfl, rfl⟩ : a = some ⟨g, 0, none⟩ ∧ n = L.length ∧ cap = cap' := by simpa using hv
    refine ⟨g, rfl, ?_, ?_⟩
    · have := World.ownsRow.cells hs (g := g) rfl _ _ c1
      rw [Addr.add_lit, Nat.zero_add] at this
      exact this
    · have := World.ownsRow.cells hs (g := g) rfl _ _ c2
      rw [Addr.add_lit, Nat.zero_add] at this
      exact this

theorem info2 : ∃ i, Try.prog.info? 77 = some i ∧ i.zero = some (.agg #[.int .i64 0, .int .i64 0]) ∧ i.size = 2 ∧ i.bytes = 16 := info_parts (by kernel_rfl)
theorem SRange.later {w w' : World} {b r n : Nat} {L T : List (Nat × Nat)} {cnt : Nat} (h : SRange w b r n L T cnt) (hb : Below w.heap.size w w') : SRange w' b r n L T cnt := by
  obtain ⟨D, left, hR, h2⟩ := h
  exact ⟨D, left, World.ranges.kept (row := none) hR ⟨hb.os, hb.tape, hb.output, hb.size, fun k hk _ => hb.block k hk⟩ (by simp) (by simp), h2⟩
theorem SRange.grown {w w' : World} {b r n : Nat} {L T : List (Nat × Nat)} {cnt : Nat} {row : Option Nat} (h : SRange w b r n L T cnt) (hg : w.grownBy w' row) (hb : some b ≠ row) (hr : some r ≠ row) : SRange w' b r n L T cnt := by
  obtain ⟨D, left, hR, h2⟩ := h
  exact ⟨D, left, World.ranges.kept hR hg hb hr, h2⟩
theorem strike_lt {T : List (Nat × Nat)} {p : Nat × Nat} (h : p ∈ T) : (T.filter fun q => !decide (q = p)).length < T.length := by
  rw [List.length_filter_lt_length_iff_exists]
  exact ⟨p, h, by simp⟩
theorem SRange.ltr {w : World} {b r n : Nat} {L T : List (Nat × Nat)} {cnt : Nat} (h : SRange w b r n L T cnt) : r < w.heap.size := by
  obtain ⟨D, left, hR, h2⟩ := h
  exact World.ranges.lt hR
theorem Touch.step {b r : Nat} {w w' w'' : World} (h : Touch b w w') (hg : w'.grownBy w'' (some r)) (hr : w.heap.size ≤ r) : Touch b w w'' :=
  ⟨hg.os.trans h.os, hg.tape.trans h.tape, hg.output.trans h.output, Nat.le_trans h.size hg.size, fun k hk hne => (hg.block k (Nat.lt_of_lt_of_le hk h.size) (by simp; omega)).trans (h.block k hk hne)⟩
theorem Own2.stepped {w w' : World} {B r : Nat} {v : Value} {L : List (Nat × Nat)} (h : Own2 w B v L) (hg : w.grownBy w' (some r)) (hr : r < B) : Own2 w' B v L := by
  refine World.ownsRow.kept h hg ?_
  cases hv : v.ownBlock with
  | none => exact .inl rfl
  | some k => exact .inr (by have := (Own2.lt h k hv).1; simp; omega)

/-- Whether a spot is beside another. -/
def nbS (V : Geo) (s p : Nat × Nat) : Bool := match V with
  | .plain _ => areNb p.1 p.2 s.1 s.2
  | .around W H => areNbJ true W H p.1 p.2 s.1 s.2
theorem nbS_geo (J : Bool) (W H : Nat) (s p : Nat × Nat) : nbS (geoOf J W H) s p = areNbJ J W H p.1 p.2 s.1 s.2 := by
  cases J
  · rw [areNb_false]; rfl
  · rfl
end Go.Proofs.Ythlbplmghjaeoaf
