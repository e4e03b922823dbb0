/- Maps that a call makes, of any keys and any values: read as functions. -/
import Derived.Test.YthlbplmghjaeoaeH1
import Derived.Test.YthlbplmghjaeoaeGY1
import Derived.DeepKeys4
import Derived.Maps.RangeWalk
import Derived.Maps.OwnOps
namespace Go.Proofs.Ythlbplmghjaeoae
open Go.RowKit

/-- How keys are laid. -/
structure KeyLay (P : Program) (kt : TypeId) (κ : Type) where
  enc : κ → Value
  lit : κ → Lit
  ok : κ → Prop
  keyed : Maps.Keyed P kt
  key : ∀ x, ok x → keyOf P kt (enc x) = some (lit x)
  inj : ∀ x y, ok x → ok y → enc x = enc y → x = y
  isKey : ∀ x, WideAt.IsKeyLit (lit x)

section
variable {P : Program} {kt : TypeId} {κ : Type} (E : KeyLay P kt κ)
theorem KeyLay.litInj {x y : κ} (hx : E.ok x) (hy : E.ok y) (h : E.lit x = E.lit y) : x = y := by
  have h1 := E.key x hx
  have h2 := E.key y hy
  rw [h] at h1
  exact E.inj x y hx hy (E.keyed.inj h1 h2)

/-- An element, whatever it is, is held. -/
def heldR (v : Value) : Option (DataW Value × List MemPlace) := some (.held v, [])

/-- A datum is the map f: where it has none, no entry. -/
def VMap (D : DataW Value) (f : κ → Option Value) : Prop :=
  Maps.IsMap D ∧ (∀ x, E.ok x → ∀ z, D.atKey (E.lit x) z = match f x with | some v => .held v | none => z) ∧ (∀ kl, Maps.has D kl = true → ∃ x, E.ok x ∧ (f x).isSome = true ∧ kl = E.lit x)
theorem VMap.nil : VMap E (.map []) (fun _ => none) := ⟨Maps.isMap_empty, fun _ _ _ => rfl, fun _ h => by cases h⟩
def putF [DecidableEq κ] (f : κ → Option Value) (q : κ) (v : Value) (x : κ) : Option Value := if x = q then some v else f x
theorem VMap.put [DecidableEq κ] {D : DataW Value} {f : κ → Option Value} (h : VMap E D f) (q : κ) (hq : E.ok q) (v : Value) : VMap E (D.put (E.lit q) (.held v)) (putF f q v) := by
  obtain ⟨h1, h2, h3⟩ := h
  refine ⟨h1.put _ _, fun p hp z => ?_, fun kl hk => ?_⟩
  · by_cases e : p = q
    · subst e
      rw [Maps.atKey_put_same h1 (E.isKey _), putF, if_pos rfl]
    · rw [Maps.atKey_put_other (fun x => e (E.litInj hp hq x)), h2 p hp, putF, if_neg e]
  · by_cases e : kl = E.lit q
    · exact ⟨q, hq, by rw [putF, if_pos rfl]; rfl, e⟩
    · rw [Maps.has_put_other e] at hk
      obtain ⟨p, hp, hp2, rfl⟩ := h3 kl hk
      exact ⟨p, hp, by rw [putF, if_neg (fun q => e (by rw [q]))]; exact hp2, rfl⟩
theorem VMap.has {D : DataW Value} {f : κ → Option Value} (h : VMap E D f) (p : κ) (hp : E.ok p) : Maps.has D (E.lit p) = (f p).isSome := by
  have h2 := h.2.1 p hp
  cases hf : f p with
  | some v =>
    rw [hf] at h2
    exact Maps.has_true_of_atKey (y := .held v) (fun z => h2 z)
  | none =>
    rw [hf] at h2
    exact Maps.has_false_of_atKey (fun z => h2 z)

/-- Block b is the map f, of at most n entries. -/
def VM (w : World) (b n : Nat) (f : κ → Option Value) : Prop := ∃ D, w.ownsMap P kt heldR b n D ∧ VMap E D f
theorem VM.made (w : World) : VM E (w.alloc (.map #[] 0)) w.heap.size 0 (fun _ => none) := ⟨_, World.ownsMap_made _ _ _ _, VMap.nil E⟩
theorem VM.lt {w : World} {b n : Nat} {f : κ → Option Value} (h : VM E w b n f) : b < w.heap.size := by
  obtain ⟨D, h, _⟩ := h
  exact World.ownsMap.lt h
theorem VM.kept {w w' : World} {b n : Nat} {f : κ → Option Value} (h : VM E w b n f) {C : Nat} (hC : b < C) (hb : Below C w w') : VM E w' b n f := by
  obtain ⟨D, ⟨es, clock, h1, h2⟩, h3⟩ := h
  exact ⟨D, ⟨es, clock, by rw [hb.block b hC]; exact h1, h2⟩, h3⟩
theorem VM.later {w w' : World} {b n : Nat} {f : κ → Option Value} (h : VM E w b n f) (hb : Below w.heap.size w w') : VM E w' b n f := h.kept E (h.lt E) hb
theorem VM.touch {w w' : World} {b n c : Nat} {f : κ → Option Value} (h : VM E w b n f) (hne : b ≠ c) (hb : Touch c w w') : VM E w' b n f := by
  have hlt := h.lt E
  obtain ⟨D, ⟨es, clock, h1, h2⟩, h3⟩ := h
  exact ⟨D, ⟨es, clock, by rw [hb.block b hlt (by simpa using hne)]; exact h1, h2⟩, h3⟩

variable {ops : Array Oper} {rest : List Oper} {o : Oper} {a : Act} {Q : Exit → Act → World → Prop} {w : World}
theorem wpList_vm_look (hg : o.guard = none) (m x : Operand) (t et : TypeId) (hop : o.op = Op.lookup t m x false) (ht : P.underlying t = some (.map kt et)) (zv : Value) (hz : (zeroValue et).run P w = .ok zv w) (b n : Nat) (f : κ → Option Value)
    (hm : a.eval m = .map (some b)) (hM : VM E w b n f) (p : κ) (hx : a.eval x = E.enc p) (hp : E.ok p)
    (hK : wpList P ops Q rest (a.put o.dst ((f p).getD zv)) w) : wpList P ops Q (o :: rest) a w := by
  obtain ⟨D, hM, hD⟩ := hM
  refine wpList_plain hg fun K' hK' => ?_
  obtain ⟨v', ps, hrun, hR⟩ := World.ownsMap.lookup hM E.keyed ht hz (zd := .held zv) (zp := []) rfl (E.key p hp)
  rw [hD.2.1 p hp] at hR
  have hv : v' = (f p).getD zv := by
    cases hf : f p with
    | some v => rw [hf] at hR; simp [heldR] at hR; rw [hR.1]; rfl
    | none => rw [hf] at hR; simp [heldR] at hR; rw [hR.1]; rfl
  unfold Oper.wp
  simp [execOp, hop, hm, hx, hrun, Result.andThen]
  rw [hv]
  exact hK' _ _ hK
theorem wpList_vm_put [DecidableEq κ] (hg : o.guard = none) (m x v : Operand) (t et : TypeId) (hop : o.op = Op.mapUpdate t m x v) (ht : P.underlying t = some (.map kt et)) (b n : Nat) (f : κ → Option Value)
    (hm : a.eval m = .map (some b)) (hM : VM E w b n f) (p : κ) (hx : a.eval x = E.enc p) (hp : E.ok p) (val : Value) (hv : a.eval v = val) (hn : n < 1099511627776)
    (hK : ∀ w', VM E w' b (n + 1) (putF f p val) → Touch b w w' → wpList P ops Q rest (a.put o.dst undef) w') : wpList P ops Q (o :: rest) a w := by
  obtain ⟨D, hM, hD⟩ := hM
  exact wpList_mapUpdate_own w hg m x v t hop kt et E.keyed ht heldR b n D hm hM (by unfold maxLen; omega) (E.enc p) val (E.lit p) hx hv (E.key p hp) (.held val) [] rfl
    fun w' h1 h2 => hK w' ⟨_, h1, hD.put E p hp val⟩ h2

theorem wpList_vm_ins [DecidableEq κ] (hg : o.guard = none) (m x v : Operand) (t et : TypeId) (hop : o.op = Op.insert t m x v) (ht : P.underlying t = some (.map kt et)) (b n : Nat) (f : κ → Option Value)
    (hm : a.eval m = .map (some b)) (hM : VM E w b n f) (p : κ) (hx : a.eval x = E.enc p) (hp : E.ok p) (val : Value) (hv : a.eval v = val) (hn : n < 1099511627776)
    (hK : ∀ w', VM E w' b (n + 1) (putF f p val) → Touch b w w' → wpList P ops Q rest (a.put o.dst undef) w') : wpList P ops Q (o :: rest) a w := by
  obtain ⟨D, hM, hD⟩ := hM
  refine wpList_plain hg fun K' hK' => ?_
  obtain ⟨w', hrun, r1, r2⟩ := hM.update E.keyed ht (by unfold maxLen; omega) (E.key p hp) (d := .held val) (ps := []) rfl
  unfold Oper.wp
  simp [execOp, hop, hm, hx, hv, hrun, Result.andThen]
  exact hK' _ _ (hK w' ⟨_, r1, hD.put E p hp val⟩ r2)
/-- One look-up, as an equation. -/
theorem VM.look_run (t et : TypeId) (ht : P.underlying t = some (.map kt et)) (zv : Value) (hz : (zeroValue et).run P w = .ok zv w) (b n : Nat) (f : κ → Option Value) (hM : VM E w b n f) (p : κ) (hp : E.ok p) :
    (Instr.lookup t (.map (some b)) (E.enc p) false).run P w = .ok ((f p).getD zv) w := by
  obtain ⟨D, hM, hD⟩ := hM
  obtain ⟨v', ps, hrun, hR⟩ := World.ownsMap.lookup hM E.keyed ht hz (zd := .held zv) (zp := []) rfl (E.key p hp)
  rw [hD.2.1 p hp] at hR
  have hv : v' = (f p).getD zv := by
    cases hf : f p with
    | some v => rw [hf] at hR; simp [heldR] at hR; rw [hR.1]; rfl
    | none => rw [hf] at hR; simp [heldR] at hR; rw [hR.1]; rfl
  rw [hrun, hv]
/-- One store, as an equation. -/
theorem VM.put_run [DecidableEq κ] (t et : TypeId) (ht : P.underlying t = some (.map kt et)) (b n : Nat) (f : κ → Option Value) (hM : VM E w b n f) (p : κ) (hp : E.ok p) (val : Value) (hn : n < 1099511627776) :
    ∃ w', (Instr.mapUpdate t (.map (some b)) (E.enc p) val).run P w = .ok () w' ∧ VM E w' b (n + 1) (putF f p val) ∧ Touch b w w' := by
  obtain ⟨D, hM, hD⟩ := hM
  obtain ⟨w', hrun, r1, r2⟩ := hM.update E.keyed ht (by unfold maxLen; omega) (E.key p hp) (d := .held val) (ps := []) rfl
  exact ⟨w', hrun, ⟨_, r1, hD.put E p hp val⟩, r2⟩

/-- The map is ranged over: T are the keys still to come. -/
def VR (w : World) (b r n : Nat) (f : κ → Option Value) (T : κ → Bool) (cnt : Nat) : Prop :=
  ∃ D left, w.ranges P kt heldR b r n D left cnt ∧ VMap E D f ∧ (∀ p, E.ok p → left (E.lit p) = T p) ∧ (∀ kl, left kl = true → ∃ p, E.ok p ∧ T p = true ∧ (f p).isSome = true ∧ kl = E.lit p)
theorem VR.vm {b r n : Nat} {f : κ → Option Value} {T : κ → Bool} {cnt : Nat} (h : VR E w b r n f T cnt) : VM E w b n f := by
  obtain ⟨D, _, h, hD, _⟩ := h
  exact ⟨D, World.ranges.owns h, hD⟩
theorem VR.left_eq {b r n : Nat} {f : κ → Option Value} {T : κ → Bool} {cnt : Nat} (h : VR E w b r n f T cnt) : w.rangeLeft b r = cnt := by
  obtain ⟨D, _, h, _⟩ := h
  exact World.ranges.left_eq h
theorem VR.ltr {b r n : Nat} {f : κ → Option Value} {T : κ → Bool} {cnt : Nat} (h : VR E w b r n f T cnt) : r < w.heap.size := by
  obtain ⟨D, left, hR, h2⟩ := h
  exact World.ranges.lt hR
theorem VR.kept {w' : World} {b r n : Nat} {f : κ → Option Value} {T : κ → Bool} {cnt : Nat} {row : Option Nat} (h : VR E w b r n f T cnt) (hg : w.grownBy w' row) (hb : some b ≠ row) (hr : some r ≠ row) : VR E w' b r n f T cnt := by
  obtain ⟨D, left, hR, h2⟩ := h
  exact ⟨D, left, World.ranges.kept hR hg hb hr, h2⟩
theorem VR.later {w' : World} {b r n : Nat} {f : κ → Option Value} {T : κ → Bool} {cnt : Nat} (h : VR E w b r n f T cnt) (hb : Below w.heap.size w w') : VR E w' b r n f T cnt :=
  h.kept E (row := none) ⟨hb.os, hb.tape, hb.output, hb.size, fun k hk _ => hb.block k hk⟩ (by simp) (by simp)
theorem VR.touch {w' : World} {b r n c : Nat} {f : κ → Option Value} {T : κ → Bool} {cnt : Nat} (h : VR E w b r n f T cnt) (h1 : b ≠ c) (h2 : r ≠ c) (hb : Touch c w w') : VR E w' b r n f T cnt :=
  h.kept E (row := some c) ⟨hb.os, hb.tape, hb.output, hb.size, fun k hk hne => hb.block k hk hne⟩ (by simpa using h1) (by simpa using h2)
theorem wpList_vm_range (hg : o.guard = none) (m : Operand) (t et : TypeId) (hop : o.op = Op.range t m) (ht : P.underlying t = some (.map kt et)) (b n : Nat) (f : κ → Option Value) (hm : a.eval m = .map (some b)) (hM : VM E w b n f)
    (hK : ∀ w' cnt, VR E w' b w.heap.size n f (fun p => (f p).isSome) cnt → w.grownBy w' none → w'.heap.size = w.heap.size + 1 → wpList P ops Q rest (a.put o.dst (.pointer (some ⟨w.heap.size, 0, none⟩))) w') : wpList P ops Q (o :: rest) a w := by
  obtain ⟨D, hM, hD⟩ := hM
  exact wpList_range_own w hg m _ hop _ _ E.keyed ht _ b n D hm hM fun w' h1 h2 h3 => hK w' _ ⟨D, _, h1, hD, hD.has E, fun kl hk => by
    obtain ⟨p, q1, q2, q3⟩ := hD.2.2 kl hk
    exact ⟨p, q1, q2, q2, q3⟩⟩ h2 h3
theorem wpList_vm_next [DecidableEq κ] (hg : o.guard = none) (it : Operand) (hop : o.op = Op.next it false) (b r n : Nat) (f : κ → Option Value) (T : κ → Bool) (cnt : Nat)
    (hit : a.eval it = .pointer (some ⟨r, 0, none⟩)) (h : VR E w b r n f T cnt)
    (hDone : cnt = 0 → (∀ p, E.ok p → T p = false) → wpList P ops Q rest (a.put o.dst (.tuple #[.bool false])) w)
    (hMore : ∀ (p : κ) (v : Value) (w' : World) (cnt' : Nat), E.ok p → T p = true → f p = some v → VR E w' b r n f (fun q => T q && !decide (q = p)) cnt' → cnt' < cnt → w.grownBy w' (some r) → w'.heap.size = w.heap.size →
      (Instr.entry (.pointer (some ⟨r, 0, none⟩))).run P w' = .ok (.tuple #[E.enc p, v]) w' → wpList P ops Q rest (a.put o.dst (.tuple #[.bool true, E.enc p, v])) w') :
    wpList P ops Q (o :: rest) a w := by
  obtain ⟨D, left, hR, hD, hl1, hl2⟩ := h
  refine wpList_plain hg fun K' hK' => ?_
  unfold Oper.wp
  rcases hR.next E.keyed o.type with ⟨h0, hl, hrun⟩ | ⟨key, v, kl, y, w', cnt', hkey, hlk, hv, hat, hrun, hrg, hlt, hgr, hsz, hen⟩
  · simp [execOp, hop, hit, hrun, Result.andThen]
    exact hK' _ _ (hDone h0 (fun p hp => by rw [← hl1 p hp, hl]))
  · obtain ⟨p, hp, hpT, hpf, rfl⟩ := hl2 kl hlk
    obtain rfl : key = E.enc p := E.keyed.inj hkey (E.key p hp)
    have hx : f p = some v := by
      obtain ⟨u, hu⟩ := Option.isSome_iff_exists.1 hpf
      have := hat .nil
      rw [hD.2.1 p hp, hu] at this
      simp [heldR] at hv
      rw [← hv] at this
      simp at this
      rw [hu, this]
    simp [execOp, hop, hit, hrun, Result.andThen]
    refine hK' _ _ (hMore p v w' cnt' hp hpT hx ⟨D, _, hrg, hD, fun q hq => ?_, fun kl hk => ?_⟩ hlt hgr hsz hen)
    · rw [hl1 q hq]
      by_cases e : q = p
      · subst e
        rw [WideAt.sameKey_self (E.isKey _)]; simp
      · rw [Maps.sameKey_ne (fun x => e (E.litInj hq hp x))]; simp [e]
    · rw [Bool.and_eq_true] at hk
      obtain ⟨q, hq, hqT, hqf, rfl⟩ := hl2 kl hk.1
      refine ⟨q, hq, ?_, hqf, rfl⟩
      have : q ≠ p := fun e => by
        rw [e, WideAt.sameKey_self (E.isKey _)] at hk
        exact absurd hk.2 (by decide)
      simp [hqT, this]
end
end Go.Proofs.Ythlbplmghjaeoae
