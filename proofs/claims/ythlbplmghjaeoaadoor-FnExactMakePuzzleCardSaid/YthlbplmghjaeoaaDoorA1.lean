/- Puzzles: clues, their cells, sizes of hidden boards. -/
import Derived.Test.YthlbplmghjaeoaaDoorJ1
import Derived.Test.YthlbplmghjaeoaaDoorE
import Derived.Test.YthlbplmghjaeoaaDoorI1
import Derived.IntWalk
import Derived.WalkLawsBesides
import Derived.Outline
namespace Go.Proofs.YthlbplmghjaeoaaDoor
open Go.RowKit

/-- A clue. -/
structure Clu where
  k : Int
  a : Int
  b : Int
deriving DecidableEq, Inhabited
def Clu.nums (c : Clu) : List Int := [c.k, c.a, c.b]
/-- The three cells of a clue; the cells of a row of clues. -/
def encC (c : Clu) : List Value := [.int .i64 c.k, .int .i64 c.a, .int .i64 c.b]
def flatC (cs : List Clu) : List Value := cs.flatMap encC
def valC (c : Clu) : Value := .agg #[.int .i64 c.k, .int .i64 c.a, .int .i64 c.b]
@[simp] theorem encC_len (c : Clu) : (encC c).length = 3 := rfl
@[simp] theorem flatC_length (cs : List Clu) : (flatC cs).length = cs.length * 3 := by
  induction cs with
  | nil => rfl
  | cons x r ih =>
    have : flatC (x :: r) = encC x ++ flatC r := rfl
    rw [this, List.length_append, ih, encC_len, List.length_cons, Nat.succ_mul, Nat.add_comm]
theorem flatC_append (cs ds : List Clu) : flatC (cs ++ ds) = flatC cs ++ flatC ds := by unfold flatC; rw [List.flatMap_append]
theorem flatC_get : ∀ (L : List Clu) (j i : Nat) (hj : j < L.length), i < 3 → (flatC L)[j * 3 + i]? = (encC L[j])[i]?
  | x :: r, 0, i, _, hi => by
    have : flatC (x :: r) = encC x ++ flatC r := rfl
    rw [this, Nat.zero_mul, Nat.zero_add, List.getElem?_append_left (by rw [encC_len]; exact hi)]; rfl
  | x :: r, j + 1, i, hj, hi => by
    have : flatC (x :: r) = encC x ++ flatC r := rfl
    rw [this, List.getElem?_append_right (by rw [encC_len, Nat.succ_mul]; omega), encC_len, show (j + 1) * 3 + i - 3 = j * 3 + i by rw [Nat.succ_mul]; omega, flatC_get r j i (by simpa using hj) hi]
    rfl
theorem flatC_one (L : List Clu) : ∀ v ∈ flatC L, v.oneCell' = true := by
  intro v hv
  obtain ⟨x, _, hx⟩ := List.mem_flatMap.1 hv
  simp only [encC, List.mem_cons, List.not_mem_nil, or_false] at hx
  rcases hx with rfl | rfl | rfl <;> rfl
/-- The cells of a clue of a row. -/
theorem clu_at {w : World} {a : Option Addr} {L : List Clu} (h : At w a (flatC L)) (j : Nat) (hj : j < L.length) : ∃ b off, a = some ⟨b, off, none⟩ ∧ b < w.heap.size ∧ w.cell? ⟨b, off + j * 3, none⟩ = some (.int .i64 L[j].k) ∧ w.cell? ⟨b, off + j * 3 + 1, none⟩ = some (.int .i64 L[j].a) ∧ w.cell? ⟨b, off + j * 3 + 2, none⟩ = some (.int .i64 L[j].b) := by
  have hl : ∀ i, i < 3 → j * 3 + i < (flatC L).length := fun i hi => by rw [flatC_length]; omega
  have H : ∀ i, (hi : i < 3) → ∃ b off, a = some ⟨b, off, none⟩ ∧ w.cell? ⟨b, off + (j * 3 + i), none⟩ = (encC L[j])[i]? := fun i hi => by
    obtain ⟨b, off, ha, hc⟩ := h _ (hl i hi)
    have e := flatC_get L j i hj hi
    rw [List.getElem?_eq_getElem (hl i hi)] at e
    exact ⟨b, off, ha, hc.trans e⟩
  obtain ⟨b, off, ha, h0⟩ := H 0 (by decide)
  obtain ⟨b1, off1, ha1, h1⟩ := H 1 (by decide)
  obtain ⟨b2, off2, ha2, h2⟩ := H 2 (by decide)
  obtain ⟨rfl, rfl⟩ : b = b1 ∧ off = off1 := by rw [ha] at ha1; simpa using ha1
  obtain ⟨rfl, rfl⟩ : b = b2 ∧ off = off2 := by rw [ha] at ha2; simpa using ha2
  exact ⟨b, off, ha, World.block_lt_of_cell? w _ h0, h0, h1, h2⟩
theorem at_sub {w : World} {b off : Nat} {xs ys zs : List Value} (h : At w (some ⟨b, off, none⟩) (xs ++ ys ++ zs)) : At w (some ⟨b, off + xs.length, none⟩) ys := fun k hk => by
  obtain ⟨b', off', ha, hc⟩ := h (xs.length + k) (by simp; omega)
  obtain ⟨rfl, rfl⟩ : b = b' ∧ off = off' := by simpa using ha
  refine ⟨b, off + xs.length, rfl, ?_⟩
  rw [show off + xs.length + k = off + (xs.length + k) by omega, hc]
  simp [List.getElem_append_left, List.getElem_append_right, hk]
/-- A row of clues that the call may write. -/
def RowC (w : World) (B : Nat) (v : Value) (cs : List Clu) : Prop :=
  ∃ a cap, v = .slice a cs.length cap ∧ cs.length ≤ cap ∧ cap ≤ 9223372036854775807 ∧ (a = none → cap = 0) ∧
    (∀ ad, a = some ad → ∃ g, ad = ⟨g, 0, none⟩ ∧ B ≤ g ∧ ∃ cur, w.heap[g]? = some (.cells cur 26 (0, 0)) ∧ cs.length * 3 ≤ cur.size ∧ cur.toList.take (cs.length * 3) = flatC cs)
theorem RowC.nil (w : World) (B : Nat) : RowC w B (.slice none 0 0) [] := ⟨none, 0, rfl, Nat.le_refl _, by omega, fun _ => rfl, fun g h => by cases h⟩
theorem RowC.below {w w' : World} {B : Nat} {v : Value} {cs : List Clu} (h : RowC w B v cs) (hb : Below w.heap.size w w') : RowC w' B v cs := by
  obtain ⟨a, cap, hv, h1, h2, h3, h4⟩ := h
  refine ⟨a, cap, hv, h1, h2, h3, fun ad ha => ?_⟩
  obtain ⟨g, rfl, hg, cur, hh, r⟩ := h4 ad ha
  exact ⟨g, rfl, hg, cur, (hb.block g (block_lt hh)).trans hh, r⟩
theorem RowC.mono {w : World} {B B' : Nat} {v : Value} {cs : List Clu} (h : RowC w B v cs) (hB : B' ≤ B) : RowC w B' v cs := by
  obtain ⟨a, cap, hv, h1, h2, h3, h4⟩ := h
  refine ⟨a, cap, hv, h1, h2, h3, fun ad ha => ?_⟩
  obtain ⟨g, rfl, hg, r⟩ := h4 ad ha
  exact ⟨g, rfl, Nat.le_trans hB hg, r⟩
theorem RowC.at {w : World} {B n cap : Nat} {a : Option Addr} {cs : List Clu} (h : RowC w B (.slice a n cap) cs) : At w a (flatC cs) := by
  obtain ⟨a', cap', hv, h1, h2, h3, h4⟩ := h
  obtain ⟨rfl, rfl, rfl⟩ : a = a' ∧ n = cs.length ∧ cap = cap' := by simpa using hv
  intro k hk
  rw [flatC_length] at hk
  cases a with
  | none => have := h3 rfl; omega
  | some ad =>
    obtain ⟨g, rfl, hg, cur, hh, hs, ht⟩ := h4 ad rfl
    refine ⟨g, 0, rfl, ?_⟩
    rw [Nat.zero_add, cell_of_block hh k]
    have e : (flatC cs)[k]? = (cur.toList.take (cs.length * 3))[k]? := by rw [ht]
    rw [List.getElem?_take_of_lt hk, List.getElem?_eq_getElem (by rw [flatC_length]; exact hk)] at e
    rw [e]; simp
theorem RowC.shape {w : World} {B : Nat} {v : Value} {cs : List Clu} (h : RowC w B v cs) : ∃ a cap, v = .slice a cs.length cap := by
  obtain ⟨a, cap, hv, _⟩ := h
  exact ⟨a, cap, hv⟩

theorem RowC.form {w : World} {B : Nat} {v : Value} {cs : List Clu} (h : RowC w B v cs) : ∃ a n cap, v = .slice a n cap := by
  obtain ⟨a, cap, hv, _⟩ := h
  exact ⟨a, _, cap, hv⟩
theorem infClu : (Tryd.prog.info? 26).map (·.size) = some 3 := by kernel_rfl
/-- A clue that is stored into a variable of the call's own. -/
theorem clue_stored {w : World} {B g : Nat} {x y z : Value} (h : w.heap[g]? = some (.cells #[x, y, z] 26 (0, 0))) (hB : B ≤ g) (c : Clu) :
    (((w.setCell ⟨g, 0, none⟩ (.int .i64 c.k)).setCell ⟨g, 1, none⟩ (.int .i64 c.a)).setCell ⟨g, 2, none⟩ (.int .i64 c.b)).heap[g]? = some (.cells #[.int .i64 c.k, .int .i64 c.a, .int .i64 c.b] 26 (0, 0)) ∧ Below B w (((w.setCell ⟨g, 0, none⟩ (.int .i64 c.k)).setCell ⟨g, 1, none⟩ (.int .i64 c.a)).setCell ⟨g, 2, none⟩ (.int .i64 c.b)) :=
  ⟨block_set (block_set (block_set h 0 _) 1 _) 2 _, (((Below.set 0 _).mono hB).trans ((Below.set 1 _).mono hB)).trans ((Below.set 2 _).mono hB)⟩
theorem infPuz : (Tryd.prog.info? 31).map (·.size) = some 3 := by kernel_rfl
theorem puzzle_stored {w : World} {B g : Nat} {x y z : Value} (h : w.heap[g]? = some (.cells #[x, y, z] 31 (0, 0))) (hB : B ≤ g) (u v t : Value) :
    (((w.setCell ⟨g, 0, none⟩ u).setCell ⟨g, 1, none⟩ v).setCell ⟨g, 2, none⟩ t).heap[g]? = some (.cells #[u, v, t] 31 (0, 0)) ∧ Below B w (((w.setCell ⟨g, 0, none⟩ u).setCell ⟨g, 1, none⟩ v).setCell ⟨g, 2, none⟩ t) :=
  ⟨block_set (block_set (block_set h 0 _) 1 _) 2 _, (((Below.set 0 _).mono hB).trans ((Below.set 1 _).mono hB)).trans ((Below.set 2 _).mono hB)⟩
/-- What is stored into a variable for a puzzle leaves rows of clues as they are. -/
theorem RowC.put {w : World} {B g j : Nat} {v u : Value} {cs : List Clu} {cur : Array Value} {fr : Nat × Nat} (h : RowC w B v cs) (hg : w.heap[g]? = some (.cells cur 31 fr)) : RowC (w.setCell ⟨g, j, none⟩ u) B v cs := by
  obtain ⟨a, cap, hv, h1, h2, h3, h4⟩ := h
  refine ⟨a, cap, hv, h1, h2, h3, fun ad ha => ?_⟩
  obtain ⟨g', rfl, hg', cur', hh, r⟩ := h4 ad ha
  have hne : g' ≠ g := by
    rintro rfl
    rw [hg] at hh
    simp at hh
  refine ⟨g', rfl, hg', cur', ?_, r⟩
  rw [← hh]
  simp [World.setCell, Array.getElem?_modify, Ne.symm hne]
theorem RowC.put3 {w : World} {B g : Nat} {v x y z : Value} {cs : List Clu} {cur : Array Value} {fr : Nat × Nat} (h : RowC w B v cs) (hg : w.heap[g]? = some (.cells cur 31 fr)) : RowC (((w.setCell ⟨g, 0, none⟩ x).setCell ⟨g, 1, none⟩ y).setCell ⟨g, 2, none⟩ z) B v cs :=
  ((h.put hg).put (block_set hg 0 x)).put (block_set (block_set hg 0 x) 1 y)
theorem away_setC {w : World} {g b : Nat} (h : b ≠ g) {j : Nat} {v : Value} : (w.setCell ⟨g, j, none⟩ v).heap[b]? = w.heap[b]? := by
  simp [World.setCell, Array.getElem?_modify, Ne.symm h]
theorem blk1 (w : World) (o p : Obj) : ((w.alloc o).alloc p).heap[w.heap.size + 1]? = some p := heap_alloc2_new w o p
theorem blk0 (w : World) (o p : Obj) : ((w.alloc o).alloc p).heap[w.heap.size]? = some o := by rw [Below.heap_alloc _ _ _ (by simp)]; exact heap_alloc_new w o
theorem blk3 (w : World) (o p q : Obj) : (((w.alloc o).alloc p).alloc q).heap[w.heap.size]? = some o ∧ (((w.alloc o).alloc p).alloc q).heap[w.heap.size + 1]? = some p ∧ (((w.alloc o).alloc p).alloc q).heap[w.heap.size + 2]? = some q := by
  refine ⟨by rw [Below.heap_alloc _ _ _ (by simp; omega)]; exact blk0 w o p, by rw [Below.heap_alloc _ _ _ (by simp)]; exact blk1 w o p, ?_⟩
  have := blk1 (w.alloc o) p q
  rwa [show (w.alloc o).heap.size + 1 = w.heap.size + 2 by simp] at this

theorem ofDrewC {w w' : World} (h : Below w.drew.heap.size w.drew w') : Below w.heap.size w w' := ⟨h.os, h.tape, h.output, h.size, h.block⟩
theorem ofDrewB {B : Nat} {w w' : World} (h : Below B w w') : Below B w w'.drew := h.drew
theorem at_clue (w : World) (c : Clu) (t : TypeId) : At (w.alloc (.cells #[.int .i64 c.k, .int .i64 c.a, .int .i64 c.b] t)) (some ⟨w.heap.size, 0, none⟩) (flatC [c]) := by
  intro k hk
  refine ⟨w.heap.size, 0, rfl, ?_⟩
  rw [Nat.zero_add, cell_of_block (heap_alloc_new w _) k]
  have hk3 : k < 3 := hk
  match k, hk3 with
  | 0, _ => rfl
  | 1, _ => rfl
  | 2, _ => rfl
/-- The sizes of hidden boards. -/
def hsB (x y : Int) : Bool := szB x y 9
set_option maxRecDepth 100000 in
theorem isHidden_any (x y : Int) (wr : World) :
    Calls Tryd.prog 41 #[.int .i64 x, .int .i64 y] wr fun e w' => e = .returned (.bool (hsB x y)) ∧ wr = w' := by
  rw [hsB, szB]
  cases hs : (inB x 1 8 && inB y 1 8) with
  | false =>
    have key : x < 1 ∨ (1 ≤ x ∧ 8 < x) ∨ (1 ≤ x ∧ x ≤ 8 ∧ y < 1) ∨ (1 ≤ x ∧ x ≤ 8 ∧ 1 ≤ y ∧ 8 < y) := by
      simp only [inB, Bool.and_eq_false_iff, decide_eq_false_iff_not] at hs
      omega
    clear hs
    rcases key with h1 | ⟨h1, h2⟩ | ⟨h1, h2, h3⟩ | ⟨h1, h2, h3, h4⟩
    all_goals
      go_enter Tryd.func41, Tryd.ntmps41
      go_wp2
      go_ret
      first
        | exact ⟨rfl, rfl⟩
        | exact ⟨by simp; omega, rfl⟩
  | true =>
    rw [Bool.and_eq_true, inB_iff, inB_iff] at hs
    obtain ⟨p1, p2⟩ := mulB (a := x) (b := y) ⟨by omega, by omega⟩ ⟨by omega, by omega⟩
    have wr1 : IntKind.i64.wrap (x * y) = x * y := IntWalk.i64_in _ ⟨by omega, by omega⟩
    have wr2 : wrap64 (x * y) = x * y := IntWalk.wrap64_in _ ⟨by omega, by omega⟩
    obtain ⟨⟨a1, a2⟩, a3, a4⟩ := hs
    by_cases h12 : x * y ≤ 9
    · go_enter Tryd.func41, Tryd.ntmps41
      go_wp2
      go_ret
      exact ⟨by simp [h12], rfl⟩
    · go_enter Tryd.func41, Tryd.ntmps41
      go_wp2
      go_ret
      exact ⟨by simp [h12], rfl⟩
end Go.Proofs.YthlbplmghjaeoaaDoor
