/- Puzzles by the program: a puzzle is read: a clue that is none comes to the recovered door. -/
import Derived.Test.YthlbplmghjaeoaaDoorA4
import Derived.Recover
import Derived.Defers
import Derived.Deep.RegionLaw
import Derived.Deep.RegionHeld3
import Derived.Deep.MidRow
import Derived.Outline
namespace Go.Proofs.YthlbplmghjaeoaaDoor
open Go.RowKit

theorem range3 {w : World} {g : Nat} {x y z : Value} (h0 : w.cell? ⟨g, 0, none⟩ = some x) (h1 : w.cell? ⟨g, 1, none⟩ = some y) (h2 : w.cell? ⟨g, 2, none⟩ = some z) : w.rangeAt g 0 [x, y, z] := fun j v hv => by
  rw [Nat.zero_add]
  match j with
  | 0 => simp at hv; subst hv; exact h0
  | 1 => simp at hv; subst hv; exact h1
  | 2 => simp at hv; subst hv; exact h2
  | j + 3 => simp at hv
theorem assert_none (k a b : Int) (w : World) : (Instr.typeAssert (.iface 98 (.agg #[.int .i64 k, .int .i64 a, .int .i64 b])) 20 98 true).run Tryd.prog w = .ok (.tuple #[.agg #[.int .i64 k, .int .i64 a, .int .i64 b], .bool true]) w := by kernel_rfl
theorem assert_nil (w : World) : (Instr.typeAssert .nilIface 20 98 true).run Tryd.prog w = .ok (.tuple #[.agg #[.int .i64 0, .int .i64 0, .int .i64 0], .bool false]) w := by kernel_rfl
set_option maxRecDepth 100000 in
theorem catch_none (g : Nat) (c : Clu) (x y z : Value) (older : List PanicEntry) (w : World) (hg : w.heap[g]? = some (.cells #[x, y, z] 31 (0, 0))) :
    CallsD Tryd.prog 66 #[.pointer (some ⟨g, 0, none⟩)] (.panicking ({ v := .iface 98 (valC c), recovered := false } :: older)) w fun e u' w' =>
      e = .returned (.tuple #[]) ∧ u' = .panicking ({ v := .iface 98 (valC c), recovered := true } :: older) ∧ w'.heap[g]? = some (.cells #[.int .i64 0, .int .i64 0, .slice none 0 0] 31 (0, 0)) ∧ Below g w w' := by
  have hlt := block_lt hg
  have hg2 : (w.alloc (.cells #[.int .i64 c.k, .int .i64 c.a, .int .i64 c.b] 98)).heap[g]? = some (.cells #[x, y, z] 31 (0, 0)) := by rw [Below.heap_alloc _ _ _ hlt]; exact hg
  have hb2 : Below g w (w.alloc (.cells #[.int .i64 c.k, .int .i64 c.a, .int .i64 c.b] 98)) := (Below.refl _ _).alloc (Nat.le_of_lt hlt) _
  have ha := assert_none c.k c.a c.b
  unfold valC
  refine callsD_of_wpS Tryd.func66 rfl fun c₀ cs hu => ?_
  apply wpS_seq
  apply wpS_region
  simp [wpOpsS, go_sem, recoverD, hu, ha, Tryd.ntmps66, Exit.thenS]
  generalize w.alloc (.cells #[.int .i64 c.k, .int .i64 c.a, .int .i64 c.b] 98) = w1 at *
  have c0 := cell_of_block hg2 0
  have c1 := cell_of_block hg2 1
  have c2 := cell_of_block hg2 2
  have cf := frozen_of_block hg2
  simp at c0 c1 c2
  obtain ⟨hp, hbp⟩ := puzzle_stored (B := g) hg2 (Nat.le_refl _) (.int .i64 0) (.int .i64 0) (.slice none 0 0)
  apply wpS_seq
  apply wpS_region
  simp [wpOpsS, go_sem, Exit.thenS]
  refine wpS_cond (t := true) (by simp [Act.eval, Array.replicate]) ?_
  simp only [if_true]
  apply wpS_region
  simp [wpOpsS, go_sem, c0, c1, c2, cf, bodyPostS, results, Tryd.results66, Array.replicate]
  exact ⟨hp, hb2.trans hbp⟩
set_option maxRecDepth 100000 in
theorem catch_idleP (g : Nat) (w : World) :
    CallsD Tryd.prog 66 #[.pointer (some ⟨g, 0, none⟩)] .returning w fun e u' w' => e = .returned (.tuple #[]) ∧ u' = .returning ∧ Below w.heap.size w w' := by
  have ha := assert_nil
  refine callsD_of_wpS Tryd.func66 rfl fun c₀ cs hu => ?_
  apply wpS_seq
  apply wpS_region
  simp [wpOpsS, go_sem, recoverD, hu, ha, Tryd.ntmps66, Exit.thenS]
  have hb2 : Below w.heap.size w (w.alloc (.cells #[.int .i64 0, .int .i64 0, .int .i64 0] 98)) := (Below.refl _ _).alloc (Nat.le_refl _) _
  generalize w.alloc (.cells #[.int .i64 0, .int .i64 0, .int .i64 0] 98) = w1 at *
  apply wpS_seq
  apply wpS_region
  simp [wpOpsS, go_sem, Exit.thenS]
  refine wpS_cond (t := false) (by simp [Act.eval, Array.replicate]) ?_
  simp only [Bool.false_eq_true, if_false]
  refine wpS_of_wp (wp_skip ?_)
  cases c₀
  simp_all [bodyPostS, results, Tryd.results66]
set_option maxRecDepth 100000 in
/-- The door of a frame that panics with a clue that is none. -/
theorem door_panic (T : Array Value) (g : Nat) (c : Clu) (x y z : Value) (w : World) (R : Ending → World → Prop) (h2 : T.getD 2 undef = .pointer (some ⟨g, 0, none⟩)) (h3 : T.getD 3 undef = .bool false) (hE : w.heap[g]? = some (.cells #[x, y, z] 31 (0, 0)))
    (hR : ∀ w', Below g w w' → R (.returned (.tuple #[.agg #[.int .i64 0, .int .i64 0, .slice none 0 0], .bool false])) w') :
    Leaves Tryd.prog Tryd.f35 T R [{ target := Target.fn (Fn.func 66) #[.pointer (some ⟨g, 0, none⟩)], args := #[] }] (.panicking [{ v := .iface 98 (.agg #[.int .i64 c.k, .int .i64 c.a, .int .i64 c.b]), recovered := false }]) w := by
  refine leaves_cons (f := 66) (args := #[.pointer (some ⟨g, 0, none⟩)]) (by simp) (by simp [go_sem]) ?_
  refine (catch_none g c x y z [] w hE).mono ?_
  rintro e u' w' ⟨rfl, rfl, hE', hb'⟩
  have p0 := cell_of_block hE' 0
  have p1 := cell_of_block hE' 1
  have p2 := cell_of_block hE' 2
  simp at p0 p1 p2 h2 h3
  simp [Leaves, settle, results, Tryd.results35, go_sem, p0, p1, p2, h2, h3]
  exact hR w' hb'
theorem leaves_congr {P : Program} {fn : Func} {T T' : Array Value} {R : Ending → World → Prop} (h : ∀ w, (results fn T).run P w = (results fn T').run P w) : ∀ (ds : List Deferred) (u : FrameMode) (w : World), Leaves P fn T R ds u w → Leaves P fn T' R ds u w
  | [], .returning, w, ⟨v, h1, h2⟩ => ⟨v, by rw [← h]; exact h1, h2⟩
  | [], .panicking _, _, hh => hh
  | [], .run, _, hh => hh
  | d :: ds, u, w, ⟨h1, fv, cap, f, args, h2, h3, h4⟩ => ⟨h1, fv, cap, f, args, h2, h3, h4.mono fun e u' w' => match e with
    | .returned _ => leaves_congr h ds (settle u') w'
    | .panicked chain => leaves_congr h ds (raised u' chain) w'
    | .outgrown => id⟩
theorem slot_free (i : Nat) (h2 : i ≠ 2) (h3 : i ≠ 3) (v : Value) (a : Act) (R : Ending → World → Prop) (c : List PanicEntry) (w : World) (h : Leaves Tryd.prog Tryd.f35 (a.put (some i) v).tmps R (a.put (some i) v).defers (.panicking c) w) : Leaves Tryd.prog Tryd.f35 a.tmps R a.defers (.panicking c) w :=
  leaves_congr (fun w => by simp [results, Tryd.results35, Act.put, Array.getElem?_setIfInBounds, h2, h3]) _ _ _ h
end Go.Proofs.YthlbplmghjaeoaaDoor
