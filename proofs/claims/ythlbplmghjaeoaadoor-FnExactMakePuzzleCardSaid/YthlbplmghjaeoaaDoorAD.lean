/- Puzzles: the laws' marks. -/
import Derived.Test.YthlbplmghjaeoaaDoorAA
import Derived.Outline
namespace Go.Proofs.YthlbplmghjaeoaaDoor
open Go.RowKit

/-- All that a call has left as it was: every block but that of a row. -/
structure Spares (a : Option Addr) (w w' : World) : Prop where
  os : w'.os = w.os
  tape : w'.tape = w.tape
  output : w'.output = w.output
  size : w.heap.size ≤ w'.heap.size
  block : ∀ b, b < w.heap.size → (∀ ad, a = some ad → ad.block ≠ b) → w'.heap[b]? = w.heap[b]?
theorem Spares.refl (a : Option Addr) (w : World) : Spares a w w := ⟨rfl, rfl, rfl, Nat.le_refl _, fun _ _ _ => rfl⟩
theorem Spares.trans {a : Option Addr} {w w' w'' : World} (h : Spares a w w') (g : Spares a w' w'') : Spares a w w'' :=
  ⟨g.os.trans h.os, g.tape.trans h.tape, g.output.trans h.output, Nat.le_trans h.size g.size, fun b hb hn => (g.block b (Nat.lt_of_lt_of_le hb h.size) hn).trans (h.block b hb hn)⟩
theorem Spares.set (g : Nat) (w : World) (j : Nat) (v : Value) : Spares (some ⟨g, 0, none⟩) w (w.setCell ⟨g, j, none⟩ v) := by
  have hb := Below.set (w := w) (g := g) j v
  refine ⟨hb.os, hb.tape, hb.output, hb.size, fun b _ hn => ?_⟩
  exact away_setC (fun e => hn _ rfl e.symm)
theorem Spares.of {w w' : World} (a : Option Addr) (h : Below w.heap.size w w') : Spares a w w' := ⟨h.os, h.tape, h.output, h.size, fun b hb _ => h.block b hb⟩
theorem Spares.below {a : Option Addr} {w w' : World} (h : Spares a w w') {B : Nat} (hB : B ≤ w.heap.size) (ha : ∀ ad, a = some ad → B ≤ ad.block) : Below B w w' :=
  ⟨h.os, h.tape, h.output, h.size, fun b hb => h.block b (by omega) (fun ad had e => by have := ha ad had; omega)⟩
theorem At.spares {a b : Option Addr} {w w' : World} {xs : List Value} (h : At w b xs) (hs : Spares a w w') (hne : ∀ ad ad', a = some ad → b = some ad' → ad.block ≠ ad'.block) : At w' b xs := by
  intro k hk
  obtain ⟨g, off, rfl, hc⟩ := h k hk
  refine ⟨g, off, rfl, ?_⟩
  rw [World.cell?_of_block (a := ⟨g, off + k, none⟩) (hs.block g (World.block_lt_of_cell? w _ hc) (fun ad had => hne ad _ had rfl))]
  exact hc
theorem RowC.lt {w : World} {B n cap : Nat} {a : Option Addr} {cs : List Clu} (h : RowC w B (.slice a n cap) cs) : ∀ ad, a = some ad → B ≤ ad.block ∧ ad.block < w.heap.size := by
  obtain ⟨a1, cap1, hv, h1, h2, h3, h4⟩ := h
  obtain ⟨rfl, rfl, rfl⟩ : a = a1 ∧ n = cs.length ∧ cap = cap1 := by simpa using hv
  intro ad had
  obtain ⟨g, rfl, hg, cur, hh, _⟩ := h4 ad had
  exact ⟨hg, block_lt hh⟩
theorem RowC.ne {w : World} {B n cap X : Nat} {a : Option Addr} {cs : List Clu} {cur : Array Value} {t : TypeId} {fr : Nat × Nat} (h : RowC w B (.slice a n cap) cs) (hX : w.heap[X]? = some (.cells cur t fr)) (ht : t ≠ 26) : ∀ ad, a = some ad → ad.block ≠ X := by
  obtain ⟨a1, cap1, hv, h1, h2, h3, h4⟩ := h
  obtain ⟨rfl, rfl, rfl⟩ : a = a1 ∧ n = cs.length ∧ cap = cap1 := by simpa using hv
  rintro ad had rfl
  obtain ⟨g, rfl, hg, cur', hh, _⟩ := h4 ad had
  rw [hX] at hh
  simp at hh
  exact ht hh.2.1
theorem RowC.spares {a : Option Addr} {w w' : World} {B n cap : Nat} {b : Option Addr} {cs : List Clu} (h : RowC w B (.slice b n cap) cs) (hs : Spares a w w') (hne : ∀ ad ad', a = some ad → b = some ad' → ad.block ≠ ad'.block) : RowC w' B (.slice b n cap) cs := by
  obtain ⟨a1, cap1, hv, h1, h2, h3, h4⟩ := h
  obtain ⟨rfl, rfl, rfl⟩ : b = a1 ∧ n = cs.length ∧ cap = cap1 := by simpa using hv
  refine ⟨_, _, rfl, h1, h2, h3, fun ad had => ?_⟩
  obtain ⟨g, rfl, hg, cur, hh, r⟩ := h4 ad had
  exact ⟨g, rfl, hg, cur, (hs.block g (block_lt hh) (fun ad' had' => hne ad' _ had' had)).trans hh, r⟩
/-- A clue of a row is overwritten. -/
theorem RowC.store {w : World} {B n cap g : Nat} {cs : List Clu} (h : RowC w B (.slice (some ⟨g, 0, none⟩) n cap) cs) (j : Nat) (hj : j < cs.length) (c : Clu) :
    RowC (((w.setCell ⟨g, j * 3, none⟩ (.int .i64 c.k)).setCell ⟨g, j * 3 + 1, none⟩ (.int .i64 c.a)).setCell ⟨g, j * 3 + 2, none⟩ (.int .i64 c.b)) B (.slice (some ⟨g, 0, none⟩) n cap) (cs.set j c) := by
  obtain ⟨a1, cap1, hv, h1, h2, h3, h4⟩ := h
  obtain ⟨rfl, rfl⟩ : n = cs.length ∧ cap = cap1 := by
    simp at hv; exact ⟨hv.2.1, hv.2.2⟩
  obtain rfl : a1 = some ⟨g, 0, none⟩ := by simp at hv; exact hv.symm
  obtain ⟨g', he, hg, cur, hh, hs, ht⟩ := h4 _ rfl
  obtain rfl : g = g' := by simpa using he
  refine ⟨some ⟨g, 0, none⟩, cap, by rw [List.length_set], by rw [List.length_set]; exact h1, h2, (fun h => by cases h), fun ad had => ?_⟩
  obtain rfl : (⟨g, 0, none⟩ : Addr) = ad := by simpa using had
  refine ⟨g, rfl, hg, _, block_set (block_set (block_set hh (j * 3) _) (j * 3 + 1) _) (j * 3 + 2) _, by rw [List.length_set]; simpa using hs, ?_⟩
  rw [List.length_set]
  simp only [Array.toList_setIfInBounds]
  rw [List.take_set, List.take_set, List.take_set, ht]
  have e1 : flatC cs = flatC (cs.take j) ++ (encC cs[j] ++ flatC (cs.drop (j + 1))) := by
    conv => lhs; rw [← List.take_append_drop j cs, List.drop_eq_getElem_cons hj]
    rw [flatC_append]; rfl
  have e2 : flatC (cs.set j c) = flatC (cs.take j) ++ (encC c ++ flatC (cs.drop (j + 1))) := by
    rw [List.set_eq_take_append_cons_drop, if_pos hj, flatC_append]; rfl
  have hl : (flatC (cs.take j)).length = j * 3 := by rw [flatC_length, List.length_take, Nat.min_eq_left (by omega)]
  rw [e1, e2, List.set_append_right _ _ (by omega), List.set_append_right _ _ (by omega), List.set_append_right _ _ (by omega), hl]
  congr 1
  simp [encC, show j * 3 + 1 - j * 3 = 1 by omega, show j * 3 + 2 - j * 3 = 2 by omega]
/-- The clues that the laws lay as marks. -/
def seqC (k : Int) : Nat → List Clu
  | 0 => []
  | n + 1 => ⟨k, k + 1, k + 2⟩ :: seqC (k + 3) n
@[simp] theorem seqC_length (k : Int) : ∀ n, (seqC k n).length = n
  | 0 => rfl
  | n + 1 => by rw [seqC, List.length_cons, seqC_length]
theorem seqC_get (n : Nat) : ∀ (k : Int) (j : Nat) (h : j < (seqC k n).length), (seqC k n)[j] = ⟨k + 3 * j, k + 3 * j + 1, k + 3 * j + 2⟩ := by
  induction n with
  | zero => intro k j h; simp at h
  | succ n ih =>
    intro k j h
    cases j with
    | zero => simp [seqC]
    | succ j => simp only [seqC, List.getElem_cons_succ]; rw [ih]; simp only [Clu.mk.injEq]; omega
theorem seqC_snoc (j : Nat) : ∀ k : Int, seqC k (j + 1) = seqC k j ++ [⟨k + 3 * j, k + 3 * j + 1, k + 3 * j + 2⟩] := by
  induction j with
  | zero => intro k; simp [seqC]
  | succ j ih =>
    intro k
    rw [seqC, ih (k + 3)]
    simp only [seqC, List.cons_append, List.cons.injEq, true_and]
    congr 2
    simp only [Clu.mk.injEq]
    omega
theorem seqC_set (cs : List Clu) (j : Nat) (hj : j < cs.length) : (seqC 1 j ++ cs.drop j).set j ⟨1 + 3 * j, 1 + 3 * j + 1, 1 + 3 * j + 2⟩ = seqC 1 (j + 1) ++ cs.drop (j + 1) := by
  rw [List.set_append_right _ _ (by simp), seqC_length, Nat.sub_self, List.drop_eq_getElem_cons hj, List.set_cons_zero, seqC_snoc, List.append_assoc]
  rfl
set_option maxRecDepth 100000 in
set_option maxHeartbeats 1600000 in
theorem markClueS_own (B : Nat) (a : Option Addr) (cs : List Clu) (n c : Nat) (w : World) (hn : n = cs.length) (hR : RowC w B (.slice a n c) cs) (hl : cs.length ≤ 1099511627776) :
    Calls Tryd.prog 45 #[.slice a n c, .int .i64 1] w fun e w' => e = .returned (.int .i64 (1 + 3 * n)) ∧ RowC w' B (.slice a n c) (seqC 1 n) ∧ Spares a w w' := by
  subst hn
  go_enter Tryd.func45, Tryd.ntmps45
  go_wp2_with fail
  go_loopw [1, 5] (fun q i wr => ∃ j : Nat, j ≤ cs.length ∧ i = .int .i64 j ∧ q = .int .i64 (1 + 3 * j) ∧ RowC wr B (.slice a cs.length c) (seqC 1 j ++ cs.drop j) ∧ Spares a w wr) (fun _ i _ => cs.length - (intOf i).toNat)
  case atStart => exact ⟨0, Nat.zero_le _, rfl, rfl, by simpa [seqC] using hR, Spares.refl _ _⟩
  case round =>
    obtain ⟨j, hj, rfl, rfl, hRr, hS⟩ := hrel
    by_cases hlt : j < cs.length
    · have hlen : (seqC 1 j ++ cs.drop j).length = cs.length := by simp; omega
      obtain ⟨g, rfl⟩ : ∃ g, a = some ⟨g, 0, none⟩ := by
        obtain ⟨a1, cap1, hv, h1, h2, h3, h4⟩ := hRr
        obtain ⟨rfl, _, rfl⟩ : a = a1 ∧ cs.length = _ ∧ c = cap1 := by simpa using hv
        cases a with
        | none => have := h3 rfl; omega
        | some ad => obtain ⟨g, rfl, _⟩ := h4 ad rfl; exact ⟨g, rfl⟩
      obtain ⟨g', off', he, hgl, q0, q1, q2⟩ := clu_at hRr.at j (by omega)
      obtain ⟨rfl, rfl⟩ : g = g' ∧ off' = 0 := by simpa [eq_comm] using he
      rw [Nat.zero_add] at q0 q1 q2
      have hfz : ∀ i, wr.frozen? ⟨g, i, none⟩ = false := by
        obtain ⟨a1, cap1, hv, h1, h2, h3, h4⟩ := hRr
        obtain rfl : a1 = some ⟨g, 0, none⟩ := by simp at hv; exact hv.1.symm
        obtain ⟨g2, he2, _, cur, hh, _⟩ := h4 _ rfl
        obtain rfl : g = g2 := by simpa using he2
        exact frozen_of_block hh
      have hst := hRr.store j (by omega) ⟨1 + 3 * j, 1 + 3 * j + 1, 1 + 3 * j + 2⟩
      rw [seqC_set cs j hlt] at hst
      have hS3 := ((hS.trans (Spares.set g wr (j * 3) (.int .i64 (1 + 3 * j)))).trans (Spares.set g _ (j * 3 + 1) (.int .i64 (1 + 3 * j + 1)))).trans (Spares.set g _ (j * 3 + 2) (.int .i64 (1 + 3 * j + 2)))
      have i1 : (j : Int) < (cs.length : Int) := by omega
      generalize (seqC 1 j ++ cs.drop j)[j] = old at *
      clear hRr hlen
      go_wp2_with fail
      go_roundw
      case rel => exact ⟨j + 1, by omega, by go_num, by first | rfl | (congr 1; omega), hst, hS3⟩
      case measure => simp [intOf]; omega
    · obtain rfl : j = cs.length := by omega
      rw [List.drop_length, List.append_nil] at hRr
      go_wp2_with fail
      go_ret
      exact ⟨rfl, hRr, hS⟩
set_option maxRecDepth 100000 in
set_option maxHeartbeats 1600000 in
theorem heldClueS_seq (a : Option Addr) (n c : Nat) (w : World) (ha : At w a (flatC (seqC 1 n))) (hl : n ≤ 1099511627776) :
    Calls Tryd.prog 46 #[.slice a n c, .int .i64 1] w fun e w' => e = .returned (.int .i64 (1 + 3 * n)) ∧ w = w' := by
  have d0 : ∀ x : Int, (x != x) = false := fun x => by simp
  go_enter Tryd.func46, Tryd.ntmps46
  go_wp2_with fail
  go_loop [1, 5] (fun q i => ∃ j : Nat, j ≤ n ∧ i = .int .i64 j ∧ q = .int .i64 (1 + 3 * j)) (fun _ i => n - (intOf i).toNat)
  case atStart => exact ⟨0, Nat.zero_le _, rfl, rfl⟩
  case round =>
    obtain ⟨j, hj, rfl, rfl⟩ := hrel
    by_cases hlt : j < n
    · obtain ⟨g, off, rfl, hgl, q0, q1, q2⟩ := clu_at ha j (by simpa using hlt)
      rw [seqC_get] at q0 q1 q2
      have i1 : (j : Int) < (n : Int) := by omega
      go_wp2_with fail
      go_round
      case rel => exact ⟨j + 1, by omega, by go_num, by first | rfl | (congr 1; omega)⟩
      case measure => simp [intOf]; omega
    · obtain rfl : j = n := by omega
      go_wp2_with fail
      go_ret
      exact ⟨rfl, rfl⟩
theorem RowC.cap {w : World} {B n cap : Nat} {a : Option Addr} {cs : List Clu} (h : RowC w B (.slice a n cap) cs) : n ≤ cap ∧ cap ≤ 9223372036854775807 := by
  obtain ⟨a1, cap1, hv, h1, h2, _⟩ := h
  obtain ⟨rfl, rfl, rfl⟩ : a = a1 ∧ n = cs.length ∧ cap = cap1 := by simpa using hv
  exact ⟨h1, h2⟩
set_option maxRecDepth 100000 in
set_option maxHeartbeats 800000 in
theorem markPuzzle_own (x y : Int) (B : Nat) (a : Option Addr) (cs : List Clu) (n c : Nat) (w : World) (hn : n = cs.length) (hR : RowC w B (.slice a n c) cs) (hl : cs.length ≤ 1099511627776) :
    Calls Tryd.prog 15 #[.agg #[.int .i64 x, .int .i64 y, .slice a n c], .int .i64 1] w fun e w' => e = .returned (.int .i64 (1 + 3 * n)) ∧ RowC w' B (.slice a n c) (seqC 1 n) ∧ Spares a w w' := by
  subst hn
  have hb : Below w.heap.size w (w.alloc (.cells #[.int .i64 x, .int .i64 y, .slice a cs.length c] 31)) := (Below.refl _ _).alloc (Nat.le_refl _) _
  have HM := Lib.hid (fun w hR => markClueS_own B a cs cs.length c w rfl hR hl)
  have hR1 := hR.below hb
  clear hR
  go_enter Tryd.func15, Tryd.ntmps15
  go_wp2_with fail
  refine (HM.out _ hR1).mono ?_
  rintro e w1 ⟨rfl, hR2, hS⟩
  have hS2 := (Spares.of a hb).trans hS
  clear hb hR1 hS
  go_wp2_with fail
  go_ret
  exact ⟨rfl, hR2, hS2⟩
set_option maxRecDepth 100000 in
set_option maxHeartbeats 800000 in
theorem heldPuzzle_seq (x y : Int) (a : Option Addr) (n c : Nat) (w : World) (hat : At w a (flatC (seqC 1 n))) (hl : n ≤ 1099511627776) :
    Calls Tryd.prog 16 #[.agg #[.int .i64 x, .int .i64 y, .slice a n c], .int .i64 1] w fun e w' => e = .returned (.int .i64 (1 + 3 * n)) ∧ Below w.heap.size w w' := by
  have hb : Below w.heap.size w (w.alloc (.cells #[.int .i64 x, .int .i64 y, .slice a n c] 31)) := (Below.refl _ _).alloc (Nat.le_refl _) _
  have HM := Lib.hid (fun w h => heldClueS_seq a n c w h hl)
  have hA1 := hat.later rfl hb
  have hq : ¬ (1 + 3 * (n : Int) < 0) := by omega
  clear hat
  go_enter Tryd.func16, Tryd.ntmps16
  go_wp2_with fail
  refine (HM.out _ hA1).mono ?_
  rintro e w1 ⟨rfl, rfl⟩
  go_wp2_with fail
  go_ret
  exact ⟨rfl, hb⟩
end Go.Proofs.YthlbplmghjaeoaaDoor
