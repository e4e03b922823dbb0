/- Opening: a map of cells that the call made, each set true. -/
import Derived.Test.YthlbplmghjaeoaeY1
import Derived.Maps.OwnSet
namespace Go.Proofs.Ythlbplmghjaeoae
open Go.RowKit

theorem addB_push (L0 : List Nat) : ∀ (r q s : List Nat), addB L0 (q ++ s) r = q ++ addB (L0 ++ q) s r
  | [], q, s => by simp [addB]
  | x :: r, q, s => by
    have h : (x ∈ L0 ∨ x ∈ q ++ s) ↔ (x ∈ L0 ++ q ∨ x ∈ s) := by simp only [List.mem_append]; exact ⟨fun h => h.elim (fun h => .inl (.inl h)) (fun h => h.elim (fun h => .inl (.inr h)) .inr), fun h => h.elim (fun h => h.elim .inl (fun h => .inr (.inl h))) (fun h => .inr (.inr h))⟩
    unfold addB
    by_cases c : x ∈ L0 ∨ x ∈ q ++ s
    · rw [if_pos c, if_pos (h.1 c)]; exact addB_push L0 r q s
    · rw [if_neg c, if_neg (fun e => c (h.2 e)), List.append_assoc]; exact addB_push L0 r q (s ++ [x])
theorem addB_from (L0 q r : List Nat) : addB L0 q r = q ++ addB (L0 ++ q) [] r := by
  have := addB_push L0 r q []
  simpa using this
theorem bfs_stop (near : Nat → List Nat) (zero : Nat → Bool) (L0 q : List Nat) : ∀ m, bfs near zero L0 m q.length q = q
  | 0 => rfl
  | m + 1 => by rw [bfs, dif_neg (by omega)]
theorem addB_len (L0 : List Nat) : ∀ r q : List Nat, (addB L0 q r).length ≤ q.length + r.length
  | [], q => by simp [addB]
  | x :: r, q => by
    unfold addB
    split
    · have := addB_len L0 r q; simp; omega
    · have := addB_len L0 r (q ++ [x]); simp at this; simp; omega

/-- All but block b is as it was; new blocks may have come. -/
def Touch (b : Nat) (w w' : World) : Prop := w.grownBy w' (some b)
theorem Touch.refl (b : Nat) (w : World) : Touch b w w := ⟨rfl, rfl, rfl, Nat.le_refl _, fun _ _ _ => rfl⟩
theorem Touch.size {b : Nat} {w w' : World} (h : Touch b w w') : w.heap.size ≤ w'.heap.size := World.grownBy.size h
theorem Touch.trans {b : Nat} {w w' w'' : World} (h : Touch b w w') (h' : Touch b w' w'') : Touch b w w'' :=
  ⟨h'.os.trans h.os, h'.tape.trans h.tape, h'.output.trans h.output, Nat.le_trans h.size h'.size,
    fun k hk hne => (h'.block k (Nat.lt_of_lt_of_le hk h.size) hne).trans (h.block k hk hne)⟩
theorem Touch.of {b : Nat} {w w' : World} (h : Below w.heap.size w w') : Touch b w w' := ⟨h.os, h.tape, h.output, h.size, fun k hk _ => h.block k hk⟩
theorem Touch.then {b C : Nat} {w w' w'' : World} (h : Touch b w w') (hb : Below C w' w'') (hC : w.heap.size ≤ C) : Touch b w w'' :=
  ⟨hb.os.trans h.os, hb.tape.trans h.tape, hb.output.trans h.output, Nat.le_trans h.size hb.size, fun k hk hne => (hb.block k (by omega)).trans (h.block k hk hne)⟩
theorem Touch.below {b C : Nat} {w w' : World} (h : Touch b w w') (hC : C ≤ b) (hs : b < w.heap.size) : Below C w w' :=
  ⟨h.os, h.tape, h.output, h.size, fun k hk => h.block k (by omega) (by simp; omega)⟩
theorem Owns.touch {b B e : Nat} {w w' : World} {v : Value} {xs : List Value} (h : Owns w B e v xs) (ht : Touch b w w') (hb : b < B) : Owns w' B e v xs := by
  have hl := Owns.lt h
  refine World.ownsRow.kept h ht ?_
  cases hv : v.ownBlock with
  | none => exact .inl rfl
  | some k => exact .inr (by have := hl k hv; simp; omega)
theorem cells_of {w : World} {p : Addr} {v : Value} (h : w.cell? p = some v) : ∃ cur e f, w.heap[p.block]? = some (.cells cur e f) := by
  unfold World.cell? at h
  split at h
  · exact ⟨_, _, _, by assumption⟩
  · cases h
theorem At.touch {b : Nat} {w w' : World} {a : Option Addr} {xs : List Value} (h : At w a xs) (ht : Touch b w w') (hb : ∀ cur e f, w.heap[b]? ≠ some (.cells cur e f)) : At w' a xs := by
  intro k hk
  obtain ⟨g, off, ha, hc⟩ := h k hk
  refine ⟨g, off, ha, World.grownBy.cell ht hc ?_⟩
  intro e
  simp only [Option.some.injEq] at e
  subst e
  have hlt := World.block_lt_of_cell? w _ hc
  obtain ⟨cur, t, f, hh⟩ := cells_of hc
  exact hb cur t f hh

def keyI (c : Nat) : Lit := .int .i64 (c : Int)
theorem keyI_inj {a b : Nat} (h : keyI a = keyI b) : a = b := by
  have e : (a : Int) = (b : Int) := by simpa [keyI] using h
  omega
theorem keyI_is (c : Nat) : WideAt.IsKeyLit (keyI c) := trivial
theorem keyI_wf (c : Nat) (h : c < 1099511627776) : (keyI c).wf = true := by
  have h1 : IntKind.i64.min = -9223372036854775808 := rfl
  have h2 : IntKind.i64.max = 9223372036854775807 := rfl
  show (decide (IntKind.i64.min ≤ (c : Int)) && decide ((c : Int) ≤ IntKind.i64.max)) = true
  rw [h1, h2, Bool.and_eq_true, decide_eq_true_eq, decide_eq_true_eq]
  omega

/-- The datum of a map of numbers, each set true. -/
def setI (L : List Nat) : DataW Unit := Maps.setOf (.lit (.bool true)) (L.map keyI)
theorem setI_snoc (L : List Nat) (c : Nat) : setI (L ++ [c]) = (setI L).put (keyI c) (.lit (.bool true)) := by
  unfold setI
  rw [List.map_append]
  exact Maps.setOf_snoc _ _ _
theorem fold_at (c : Nat) (z : DataW Unit) : ∀ (L : List Nat) (m : DataW Unit), Maps.IsMap m →
    ((L.map keyI).foldl (fun m x => m.put x (.lit (.bool true))) m).atKey (keyI c) z = if c ∈ L then .lit (.bool true) else m.atKey (keyI c) z
  | [], _, _ => by simp
  | x :: r, m, hm => by
    rw [List.map_cons, List.foldl_cons, fold_at c z r _ (hm.put _ _)]
    by_cases h1 : c ∈ r
    · rw [if_pos h1, if_pos (List.mem_cons_of_mem _ h1)]
    · rw [if_neg h1]
      by_cases h2 : c = x
      · subst h2
        rw [if_pos List.mem_cons_self, Maps.atKey_put_same hm (keyI_is _)]
      · rw [if_neg (by rw [List.mem_cons]; exact fun e => e.elim h2 h1), Maps.atKey_put_other (fun e => h2 (keyI_inj e))]
theorem setI_at (L : List Nat) (c : Nat) (z : DataW Unit) : (setI L).atKey (keyI c) z = if c ∈ L then .lit (.bool true) else z := by
  unfold setI Maps.setOf
  rw [fold_at c z L _ Maps.isMap_empty]
  rfl

/-- Block b is a map of the cells L, each true. -/
def Marks (w : World) (b : Nat) (L : List Nat) : Prop := w.ownsMap Try.prog 3 (plainElem (H := Unit) Try.prog 4) b L.length (setI L)
theorem Marks.made (w : World) : Marks (w.alloc (.map #[] 0)) w.heap.size [] := World.ownsMap_made _ _ _ _
theorem Marks.lt {w : World} {b : Nat} {L : List Nat} (h : Marks w b L) : b < w.heap.size := World.ownsMap.lt h
theorem Marks.nocells {w : World} {b : Nat} {L : List Nat} (h : Marks w b L) : ∀ cur e f, w.heap[b]? ≠ some (.cells cur e f) := by
  intro cur e f hc
  obtain ⟨es, clock, hb, _⟩ := h
  rw [hb] at hc
  cases hc
theorem Marks.kept {w w' : World} {b : Nat} {L : List Nat} (h : Marks w b L) {C : Nat} (hC : b < C) (hb : Below C w w') : Marks w' b L := by
  obtain ⟨es, clock, h1, h2⟩ := h
  exact ⟨es, clock, by rw [hb.block b hC]; exact h1, h2⟩
theorem Marks.later {w w' : World} {b : Nat} {L : List Nat} (h : Marks w b L) (hb : Below w.heap.size w w') : Marks w' b L := h.kept h.lt hb

theorem keyedI : Maps.Keyed Try.prog 3 := Maps.int_keyed Try.underlying3
theorem keyI_of (c : Nat) (h : c < 1099511627776) : keyOf Try.prog 3 (.int .i64 (c : Int)) = some (keyI c) := Maps.keyOf_int_mk Try.underlying3 (keyI_wf c h)
theorem zeroBool (w : World) : (zeroValue 4).run Try.prog w = .ok (.bool false) w := by kernel_rfl

theorem plainElem_bool_inv {P : Program} {e : TypeId} (he : P.underlying e = some .bool) {v : Value} {z : DataW Unit × List MemPlace} (h : plainElem P e v = some z) : ∃ x, v = .bool x ∧ z = (.lit (.bool x), []) := by
  unfold plainElem at h
  rw [he] at h
  cases v <;> simp at h
  exact ⟨_, rfl, h.symm⟩

/-- Is a cell in the map? -/
theorem wpList_mark_look {ops : Array Oper} {rest : List Oper} {o : Oper} {a : Act} {Q : Exit → Act → World → Prop} {w : World} (hg : o.guard = none) (m x : Operand)
    (hop : o.op = Op.lookup 79 m x false) (b : Nat) (L : List Nat) (hm : a.eval m = .map (some b)) (hM : Marks w b L) (c : Nat) (hx : a.eval x = .int .i64 (c : Int)) (hc : c < 1099511627776) (v : Bool) (hv : decide (c ∈ L) = v)
    (hK : wpList Try.prog ops Q rest (a.put o.dst (.bool v)) w) : wpList Try.prog ops Q (o :: rest) a w := by
  refine wpList_plain hg fun K' hK' => ?_
  obtain ⟨v', ps, hrun, hR⟩ := World.ownsMap.lookup hM keyedI Try.underlying79 (zeroBool w) (zd := .lit (.bool false)) (zp := []) (plainElem_bool Try.underlying4 false) (keyI_of c hc)
  rw [setI_at] at hR
  obtain ⟨y, rfl, hy⟩ := plainElem_bool_inv Try.underlying4 hR
  obtain rfl : y = v := by
    subst hv
    have hy1 := congrArg Prod.fst hy
    by_cases hcL : c ∈ L
    · rw [if_pos hcL] at hy1
      simp [hcL] at hy1 ⊢; exact hy1
    · rw [if_neg hcL] at hy1
      simp [hcL] at hy1 ⊢; exact hy1
  unfold Oper.wp
  simp [execOp, hop, hm, hx, hrun, Result.andThen]
  exact hK' _ _ hK

/-- A cell is set true. -/
theorem wpList_mark_put {ops : Array Oper} {rest : List Oper} {o : Oper} {a : Act} {Q : Exit → Act → World → Prop} {w : World} (hg : o.guard = none) (m x v : Operand)
    (hop : o.op = Op.mapUpdate 79 m x v) (b : Nat) (L : List Nat) (hm : a.eval m = .map (some b)) (hM : Marks w b L) (c : Nat) (hx : a.eval x = .int .i64 (c : Int)) (hc : c < 1099511627776) (hv : a.eval v = .bool true) (hL : L.length < 1099511627776)
    (hK : ∀ w', Marks w' b (L ++ [c]) → Touch b w w' → wpList Try.prog ops Q rest (a.put o.dst undef) w') : wpList Try.prog ops Q (o :: rest) a w := by
  refine wpList_mapUpdate_own w hg m x v _ hop _ _ keyedI Try.underlying79 _ b L.length (setI L) hm hM (by unfold maxLen; omega) _ _ (keyI c) hx hv (keyI_of c hc) (.lit (.bool true)) [] (plainElem_bool Try.underlying4 true) ?_
  intro w' h1 h2
  refine hK w' ?_ h2
  unfold Marks
  rw [setI_snoc, List.length_append]
  exact h1
end Go.Proofs.Ythlbplmghjaeoae
