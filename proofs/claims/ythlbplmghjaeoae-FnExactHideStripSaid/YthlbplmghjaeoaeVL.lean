/- How many cells a map of cells has; rows loaded first in a region that draws. -/
import Derived.Test.YthlbplmghjaeoaeGY1
import Derived.Laws.Rows
import Derived.Laws.Tables
import Derived.OrdersHeld
import Derived.RegionTactic
namespace Go.Proofs.Ythlbplmghjaeoae
open Go.RowKit

theorem keys_has (L : List Nat) (c : Nat) : (L.map keyI).any (fun y => y.sameKey (keyI c)) = decide (c ∈ L) := by
  induction L with
  | nil => simp
  | cons x L ih =>
    rw [List.map_cons, List.any_cons, ih]
    have e : (keyI x).sameKey (keyI c) = decide (x = c) := by simp only [keyI, Lit.sameKey, true_and]; exact decide_eq_decide.2 (by omega)
    rw [e]
    by_cases h : x = c
    · subst h; simp
    · have h2 : ¬ c = x := fun q => h q.symm
      simp [h, h2]
theorem keys_fold : ∀ (L acc : List Nat), acc.Nodup → ∃ acc' : List Nat, (L.map keyI).foldl Maps.addKey (acc.map keyI) = acc'.map keyI ∧ acc'.Nodup ∧ ∀ x, x ∈ acc' ↔ x ∈ acc ∨ x ∈ L
  | [], acc, h => ⟨acc, rfl, h, fun x => by simp⟩
  | c :: L, acc, h => by
    rw [List.map_cons, List.foldl_cons, Maps.addKey, keys_has]
    by_cases hc : c ∈ acc
    · obtain ⟨acc', h1, h2, h3⟩ := keys_fold L acc h
      refine ⟨acc', by rw [if_pos (by simpa using hc)]; exact h1, h2, fun x => ?_⟩
      rw [h3, List.mem_cons]
      constructor
      · rintro (q | q)
        · exact .inl q
        · exact .inr (.inr q)
      · rintro (q | q | q)
        · exact .inl q
        · subst q; exact .inl hc
        · exact .inr q
    · obtain ⟨acc', h1, h2, h3⟩ := keys_fold L (acc ++ [c]) (by
        rw [List.nodup_append]
        refine ⟨h, by simp, ?_⟩
        intro a ha b hb
        simp at hb
        subst hb
        exact fun q => hc (q ▸ ha))
      refine ⟨acc', by rw [if_neg (by simpa using hc)]; simpa using h1, h2, fun x => ?_⟩
      rw [h3]; simp [or_assoc]
/-- A map of cells has as many as there are different ones. -/
theorem size_setI {n : Nat} {L : List Nat} (h : ∀ x ∈ L, x < n) : Maps.size (setI L) = ((sortM n L).length : Nat) := by
  have h1 := Maps.size_setOf (H := Unit) (.lit (.bool true)) (L.map keyI) (fun x hx => by
    obtain ⟨c, _, rfl⟩ := List.mem_map.1 hx
    exact keyI_is c)
  obtain ⟨acc', h2, h3, h4⟩ := keys_fold L [] List.nodup_nil
  rw [List.map_nil] at h2
  have h5 : setI L = Maps.setOf (H := Unit) (.lit (.bool true)) (L.map keyI) := rfl
  have h6 : ∀ x, x ∈ acc' ↔ x ∈ L := fun x => by rw [h4]; simp
  rw [h5, h1, h2, List.length_map, ← sortM_len h3 (fun x hx => h x ((h6 x).1 hx))]
  rw [sortM_congr h6]

theorem marks_len {w : World} {b n : Nat} {L : List Nat} (h : Marks w b L) (hL : ∀ x ∈ L, x < n) (ty : TypeId) : (Builtin.len_ #[79] ty #[.map (some b)]).run Try.prog w = .ok (.int .i64 (((sortM n L).length : Nat) : Int)) w := by
  rw [World.ownsMap.len h Try.underlying79 ty, size_setI hL]
theorem wp_marks_len {o : Oper} {a : Act} {w : World} {K : Act → World → Prop} {Q : Exit → Act → World → Prop} {m : Operand} {b n : Nat} {L : List Nat} (ho : o.op = Op.call { callee := Callee.builtin Builtin.len, args := #[m], argTypes := #[79] })
    (hm : a.eval m = .map (some b)) (hM : Marks w b L) (hL : ∀ x ∈ L, x < n) (h : K (a.put o.dst (.int .i64 (((sortM n L).length : Nat) : Int))) w) : Oper.wp Try.prog o a w K Q := by
  unfold Oper.wp
  simp [execOp, ho, resolve, invoke, builtin, hm, marks_len hM hL o.type, Result.andThen]
  exact h
theorem wpList_marks_len {ops : Array Oper} {rest : List Oper} {o : Oper} {a : Act} {Q : Exit → Act → World → Prop} {w : World} {b n : Nat} {L : List Nat} (hg : o.guard = none) (m : Operand) (ho : o.op = Op.call { callee := Callee.builtin Builtin.len, args := #[m], argTypes := #[79] })
    (hm : a.eval m = .map (some b)) (hM : Marks w b L) (hL : ∀ x ∈ L, x < n) (h : wpList Try.prog ops Q rest (a.put o.dst (.int .i64 (((sortM n L).length : Nat) : Int))) w) : wpList Try.prog ops Q (o :: rest) a w :=
  wpList_plain hg fun _ hK => wp_marks_len ho hm hM hL (hK _ _ h)

theorem step_if {c : Bool} {A B : Prop} (hc : c = true) (h : A) : if c = true then A else B := by rw [if_pos hc]; exact h
/-- The load of a whole row may be taken first, where the row is known in every world that meets S. -/
theorem yields_rowG {P : Program} {ops : Array Oper} {S : World → Prop} {o : Oper} {a : Act} (hw : Region.wanted o (yielded ops a.tmps) = true) (ty : TypeId) (x : Operand) (ho : o.op = .load ty x)
    (g : Nat) (hx : a.eval x = .pointer (some ⟨g, 0, none⟩)) (t : TypeId) (cs : Array Value) (fr : Nat × Nat) (d : TypeDesc) (hS : ∀ w, S w → w.heap[g]? = some (.cells cs t fr))
    (hu : P.underlying ty = some d) (hd : (match d with | .struct _ | .array _ _ => true | _ => false) = true) (hi : (P.info? ty).map (·.size) = some cs.size) : YieldsIf P ops S o (.agg cs) a := by
  refine .inl ⟨hw, fun w h => ?_⟩
  unfold execOp
  simp only [ho, hx, Instr.loadAt, Instr.sureAddr, Sem.run_bind, Sem.run_pure, Result.andThen_ok, run_loadVar_row w g t ty cs fr d (hS w h) hu hd hi]
end Go.Proofs.Ythlbplmghjaeoae
