/- Opening: the search over zeros, by the model. -/
import Derived.Test.YtndmkbkmfonefacDoorY8
import Derived.Test.YtndmkbkmfonefacDoorN4
import Derived.Outline
namespace Go.Proofs.YtndmkbkmfonefacDoor
open Go.RowKit

/-- Two values own no block in common. -/
def Apart (v u : Value) : Prop := ∀ k, v.ownBlock = some k → u.ownBlock ≠ some k
theorem Apart.fresh {w : World} {B e : Nat} {v u : Value} {xs : List Value} (h : Owns w B e v xs) (hu : ∀ k, u.ownBlock = some k → w.heap.size ≤ k) : Apart v u := by
  intro k hk hk2
  have h1 := (h.lt k hk).2
  have h2 := hu k hk2
  omega
theorem Apart.symm {v u : Value} (h : Apart v u) : Apart u v := fun k hk hk2 => h k hk2 hk

/-- append of one element to a row that the call owns, with what becomes of other rows. -/
theorem wpList_app1K {P : Program} {ops : Array Oper} {rest : List Oper} {o : Oper} {a : Act} {Q : Exit → Act → World → Prop} {w : World} (hgd : o.guard = none) (s x : Operand) (t : TypeId)
    (ho : o.op = .call { callee := .builtin .append, args := #[s, x], argTypes := #[t, t] })
    (B e bytes : Nat) (z : Value) (E : Elem P t e z bytes) (v : Value) (xs : List Value) (x0 : Value) (w0 : World) (hw : w = w0.alloc (.cells #[x0] e)) (hx1 : x0.oneCell' = true)
    (hs : a.eval s = v) (hown : Owns w0 B e v xs) (hx : a.eval x = .slice (some ⟨w0.heap.size, 0, none⟩) 1 1)
    (hlen : (xs.length + 1) * bytes ≤ 140737488355328) (hB : B ≤ w0.heap.size) (hlen' : xs.length < 1099511627776)
    (h : ∀ v' w', Owns w' B e v' (xs ++ [x0]) → Below B w0 w' → w0.heap.size < w'.heap.size → (∀ B' e' u ys, Owns w0 B' e' u ys → Apart v u → Owns w' B' e' u ys ∧ Apart v' u) → wpList P ops Q rest (a.put o.dst v') w') : wpList P ops Q (o :: rest) a w := by
  subst hw
  obtain ⟨i, hi, hz, hsz, hby⟩ := E.info
  refine wpList_plain hgd fun K hK => ?_
  obtain ⟨v', w', hrun, h2, h3, _, h5⟩ := run_append_own_at (P := P) (w0.alloc (.cells #[x0] e)) B t o.type e i z 1 bytes E.und hi hz hsz hby E.one (by decide) v xs.length xs (World.ownsRow.alloc hown _) ⟨w0.heap.size, 0, none⟩ 1 1 [x0] rfl (cell_one_new _ _ _) (by simpa using hx1) (by unfold maxLen; omega) hlen (by simp; omega)
  have hsz2 : w0.heap.size < w'.heap.size := by have := h3.size; simp at this; omega
  unfold Oper.wp execOp
  simp only [ho, resolve, invoke, builtin, Sem.run_bind, Sem.run_pure, Result.andThen_ok, List.map_toArray, List.map_cons, List.map_nil, hs, hx, hrun]
  refine hK _ _ (h v' w' (by simpa [Owns] using h2) (((Below.refl B w0).alloc hB _).grown h3 (by simp; omega) (fun k hk => (Owns.lt hown k hk).1)) hsz2 ?_)
  intro B' e' u ys hu hap
  refine ⟨World.ownsRow.kept (World.ownsRow.alloc hu _) h3 ?_, ?_⟩
  · cases hv : u.ownBlock with
    | none => exact .inl rfl
    | some k => exact .inr fun e => hap k e.symm hv
  · intro k hk hk2
    rcases h5 with h5 | h5
    · exact hap k (h5 ▸ hk) hk2
    · rw [h5] at hk
      have h6 := (Owns.lt hu k hk2).2
      simp at hk
      omega

set_option maxRecDepth 100000 in
set_option maxHeartbeats 800000 in
theorem opFree_any (l : List UInt8) (c : Int) (w : World) (hl : l.length ≤ 1048576) :
    Calls Tryd.prog 41 #[.string ⟨l.toArray⟩, .int .i64 c] w fun e w' => e = .returned (.bool (freeOK l c)) ∧ Below w.heap.size w w' := by
  by_cases hc : cellOK l c = true
  · have HC := Lib.hid hc
    obtain ⟨hg, k, rfl, hk⟩ := cellOK_yes hc
    have h64 := cells_le72 hg
    have hgc : gCells l = cellsM l := by rw [gCells, if_pos hg]
    have hF : Hid (freeOK l k = ((cellsM l)[k] == 46)) := by
      rw [Hid, freeOK, hgc, freeB_at _ k hk]
      rcases cells_sign hg _ (List.getElem_mem hk) with h | h <;> rw [h] <;> rfl
    have hd : Hid ((((cellsM l)[k].toNat : Int) == 46) = ((cellsM l)[k] == 46)) := byte_beq _ 46 (by omega)
    have hcc := boCell_any l k w hl
    rw [hc] at hcc
    have HCC := Lib.hid hcc
    have hcl := fun w => boCells_any l w hl
    have HCL := Lib.hid hcl
    generalize cellsM l = cells at *
    clear hc hg hgc hcc hcl
    go_enter Tryd.func41, Tryd.ntmps41
    go_wp2_with fail
    refine HCC.out.mono ?_
    rintro e w1 ⟨rfl, hb1⟩
    go_wp2_with fail
    refine (HCL.out _).mono ?_
    rintro e w2 ⟨rfl, rfl⟩
    go_wp2_with fail
    go_ret
    exact ⟨by rw [hF.out, ← hd.out]; rfl, hb1⟩
  · have hc' : cellOK l c = false := by simpa using hc
    have hF : Hid (freeOK l c = false) := by
      rw [Hid]
      cases hq : freeOK l c with
      | false => rfl
      | true =>
        obtain ⟨hg, k, rfl, hk, _⟩ := freeOK_yes hq
        rw [gCells, if_pos hg] at hk
        rw [cellOK, hg] at hc'
        simp [inB] at hc'
        omega
    have hcc := boCell_any l c w hl
    rw [hc'] at hcc
    have HCC := Lib.hid hcc
    clear hc hc' hcc
    go_enter Tryd.func41, Tryd.ntmps41
    go_wp2_with fail
    refine HCC.out.mono ?_
    rintro e w1 ⟨rfl, hb1⟩
    go_wp2_with fail
    go_ret
    exact ⟨by rw [hF.out]; rfl, hb1⟩
end Go.Proofs.YtndmkbkmfonefacDoor
