/- Groups of mines: a map of spots, each set true, looked into, put into, deleted from and ranged over. -/
import Derived.Test.YthlbplmghjaeoafQ1
namespace Go.Proofs.Ythlbplmghjaeoaf
open Go.RowKit

/-- A datum is the map of the spots L, each true. -/
def SMap (D : DataW Unit) (L : List (Nat × Nat)) : Prop :=
  Maps.IsMap D ∧ (∀ p, spOK p → ∀ z, D.atKey (spL p) z = if p ∈ L then .lit (.bool true) else z) ∧ (∀ kl, Maps.has D kl = true → ∃ p, p ∈ L ∧ spOK p ∧ kl = spL p)
theorem SMap.nil : SMap (.map []) [] := ⟨Maps.isMap_empty, fun _ _ _ => rfl, fun _ h => by cases h⟩
theorem SMap.put {D : DataW Unit} {L : List (Nat × Nat)} (h : SMap D L) (q : Nat × Nat) (hq : spOK q) : SMap (D.put (spL q) (.lit (.bool true))) (L ++ [q]) := by
  obtain ⟨h1, h2, h3⟩ := h
  refine ⟨h1.put _ _, fun p hp z => ?_, fun kl hk => ?_⟩
  · by_cases e : p = q
    · subst e
      rw [Maps.atKey_put_same h1 (spL_is _), if_pos (by simp)]
    · rw [Maps.atKey_put_other (fun x => e (spL_inj hp hq x)), h2 p hp]
      by_cases hL : p ∈ L
      · rw [if_pos hL, if_pos (by simp [hL])]
      · rw [if_neg hL, if_neg (by simp [hL, e])]
  · by_cases e : kl = spL q
    · exact ⟨q, by simp, hq, e⟩
    · rw [Maps.has_put_other e] at hk
      obtain ⟨p, hp, hp2, rfl⟩ := h3 kl hk
      exact ⟨p, by simp [hp], hp2, rfl⟩
theorem SMap.del {D : DataW Unit} {L : List (Nat × Nat)} (h : SMap D L) (q : Nat × Nat) (hq : spOK q) : SMap (D.del (spL q)) (L.filter (fun p => decide (p ≠ q))) := by
  obtain ⟨h1, h2, h3⟩ := h
  refine ⟨h1.del _, fun p hp z => ?_, fun kl hk => ?_⟩
  · by_cases e : p = q
    · subst e
      rw [Maps.atKey_del_same, if_neg (by simp)]
    · rw [Maps.atKey_del_other (fun x => e (spL_inj hp hq x)), h2 p hp]
      by_cases hL : p ∈ L
      · rw [if_pos hL, if_pos (by simp [hL, e])]
      · rw [if_neg hL, if_neg (by simp [hL])]
  · by_cases e : kl = spL q
    · rw [e, Maps.has_del_same] at hk; cases hk
    · rw [Maps.has_del_other e] at hk
      obtain ⟨p, hp, hp2, rfl⟩ := h3 kl hk
      exact ⟨p, by simp [hp]; exact fun x => e (by rw [x]), hp2, rfl⟩

/-- Block b is a map of the spots L, each true, of at most n entries. -/
def Spots (w : World) (b n : Nat) (L : List (Nat × Nat)) : Prop := ∃ D, w.ownsMap Try.prog 77 (plainElem (H := Unit) Try.prog 4) b n D ∧ SMap D L
theorem Spots.made (w : World) : Spots (w.alloc (.map #[] 0)) w.heap.size 0 [] := ⟨_, World.ownsMap_made _ _ _ _, SMap.nil⟩
theorem Spots.lt {w : World} {b n : Nat} {L : List (Nat × Nat)} (h : Spots w b n L) : b < w.heap.size := by
  obtain ⟨D, h, _⟩ := h
  exact World.ownsMap.lt h
theorem Spots.kept {w w' : World} {b n : Nat} {L : List (Nat × Nat)} (h : Spots w b n L) {C : Nat} (hC : b < C) (hb : Below C w w') : Spots w' b n L := by
  obtain ⟨D, ⟨es, clock, h1, h2⟩, h3⟩ := h
  exact ⟨D, ⟨es, clock, by rw [hb.block b hC]; exact h1, h2⟩, h3⟩
theorem Spots.later {w w' : World} {b n : Nat} {L : List (Nat × Nat)} (h : Spots w b n L) (hb : Below w.heap.size w w') : Spots w' b n L := h.kept h.lt hb

/-- The map is ranged over: T are the spots still to come. -/
def SRange (w : World) (b r n : Nat) (L T : List (Nat × Nat)) (cnt : Nat) : Prop :=
  ∃ D left, w.ranges Try.prog 77 (plainElem (H := Unit) Try.prog 4) b r n D left cnt ∧ SMap D L ∧ (∀ p, spOK p → left (spL p) = decide (p ∈ T)) ∧ (∀ kl, left kl = true → ∃ p, p ∈ T ∧ spOK p ∧ kl = spL p)
theorem SRange.spots {w : World} {b r n : Nat} {L T : List (Nat × Nat)} {cnt : Nat} (h : SRange w b r n L T cnt) : Spots w b n L := by
  obtain ⟨D, _, h, hD, _⟩ := h
  exact ⟨D, World.ranges.owns h, hD⟩
theorem SRange.left_eq {w : World} {b r n : Nat} {L T : List (Nat × Nat)} {cnt : Nat} (h : SRange w b r n L T cnt) : w.rangeLeft b r = cnt := by
  obtain ⟨D, _, h, _⟩ := h
  exact World.ranges.left_eq h

theorem has_spot {D : DataW Unit} {L : List (Nat × Nat)} (h : SMap D L) (p : Nat × Nat) (hp : spOK p) : Maps.has D (spL p) = decide (p ∈ L) := by
  by_cases hL : p ∈ L
  · rw [decide_eq_true hL]
    exact Maps.has_true_of_atKey (y := .lit (.bool true)) (fun z => by rw [h.2.1 p hp, if_pos hL])
  · rw [decide_eq_false hL]
    exact Maps.has_false_of_atKey (fun z => by rw [h.2.1 p hp, if_neg hL])
theorem strike_spot {left : Lit → Bool} {T : List (Nat × Nat)} (h1 : ∀ p, spOK p → left (spL p) = decide (p ∈ T)) (h2 : ∀ kl, left kl = true → ∃ p, p ∈ T ∧ spOK p ∧ kl = spL p) (q : Nat × Nat) (hq : spOK q) :
    (∀ p, spOK p → (left (spL p) && !(spL p).sameKey (spL q)) = decide (p ∈ T.filter (fun p => decide (p ≠ q)))) ∧ (∀ kl, (left kl && !kl.sameKey (spL q)) = true → ∃ p, p ∈ T.filter (fun p => decide (p ≠ q)) ∧ spOK p ∧ kl = spL p) := by
  constructor
  · intro p hp
    rw [h1 p hp]
    by_cases e : p = q
    · subst e
      rw [WideAt.sameKey_self (spL_is _), decide_eq_false (p := p ∈ T.filter _) (by simp)]
      simp
    · rw [Maps.sameKey_ne (fun x => e (spL_inj hp hq x))]
      simp [e]
  · intro kl hk
    rw [Bool.and_eq_true] at hk
    obtain ⟨p, hp, hp2, rfl⟩ := h2 kl hk.1
    refine ⟨p, ?_, hp2, rfl⟩
    rw [List.mem_filter]
    refine ⟨hp, decide_eq_true fun e => ?_⟩
    rw [e, WideAt.sameKey_self (spL_is _)] at hk
    exact absurd hk.2 (by decide)

theorem wpList_spot_next {ops : Array Oper} {rest : List Oper} {o : Oper} {a : Act} {Q : Exit → Act → World → Prop} {w : World} (hg : o.guard = none) (it : Operand) (hop : o.op = Op.next it false) (b r n : Nat) (L T : List (Nat × Nat)) (cnt : Nat)
    (hit : a.eval it = .pointer (some ⟨r, 0, none⟩)) (h : SRange w b r n L T cnt)
    (hDone : cnt = 0 → (∀ p, spOK p → p ∉ T) → wpList Try.prog ops Q rest (a.put o.dst (.tuple #[.bool false])) w)
    (hMore : ∀ (p : Nat × Nat) (w' : World) (cnt' : Nat), spOK p → p ∈ T → p ∈ L → SRange w' b r n L (T.filter (fun q => decide (q ≠ p))) cnt' → cnt' < cnt → w.grownBy w' (some r) → w'.heap.size = w.heap.size →
      (Instr.entry (.pointer (some ⟨r, 0, none⟩))).run Try.prog w' = .ok (.tuple #[spV p, .bool true]) w' → wpList Try.prog ops Q rest (a.put o.dst (.tuple #[.bool true, spV p, .bool true])) w') :
    wpList Try.prog ops Q (o :: rest) a w := by
  obtain ⟨D, left, hR, hD, hl1, hl2⟩ := h
  refine wpList_plain hg fun K' hK' => ?_
  unfold Oper.wp
  rcases hR.next keyedS o.type with ⟨h0, hl, hrun⟩ | ⟨key, v, kl, y, w', cnt', hkey, hlk, hv, hat, hrun, hrg, hlt, hgr, hsz, hen⟩
  · simp [execOp, hop, hit, hrun, Result.andThen]
    exact hK' _ _ (hDone h0 (fun p hp hT => by have := hl1 p hp; rw [hl, decide_eq_true hT] at this; cases this))
  · obtain ⟨p, hpT, hp, rfl⟩ := hl2 kl hlk
    obtain rfl : key = spV p := keyedS.inj hkey (spL_of p hp)
    obtain ⟨x, rfl, rfl⟩ := plainElem_bool_inv Try.underlying4 hv
    have hx : p ∈ L ∧ x = true := by
      by_cases hL : p ∈ L
      · have := hat (.lit (.bool false))
        rw [hD.2.1 p hp, if_pos hL] at this
        exact ⟨hL, by simpa using this.symm⟩
      · have h1 := hat (.lit (.bool (!x)))
        rw [hD.2.1 p hp, if_neg hL] at h1
        exfalso
        cases x <;> simp at h1
    obtain ⟨hL, rfl⟩ := hx
    obtain ⟨s1, s2⟩ := strike_spot hl1 hl2 p hp
    simp [execOp, hop, hit, hrun, Result.andThen]
    exact hK' _ _ (hMore p w' cnt' hp hpT hL ⟨D, _, hrg, hD, s1, s2⟩ hlt hgr hsz hen)

end Go.Proofs.Ythlbplmghjaeoaf
