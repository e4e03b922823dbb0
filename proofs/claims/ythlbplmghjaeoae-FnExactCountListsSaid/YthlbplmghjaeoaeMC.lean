/- Maps whose keys are twelve numbers; one entry made and written. -/
import Derived.Test.YthlbplmghjaeoaeH2
import Derived.Test.YthlbplmghjaeoaeQ1
namespace Go.Proofs.Ythlbplmghjaeoae
open Go.RowKit Go.MapKept Go.ChangeMaps Go.WideElems

theorem modify_two (es : Array MapEntry) (j : Nat) (f g : MapEntry → MapEntry) : (es.modify j f).modify j g = es.modify j (fun e => g (f e)) := by
  apply Array.ext_getElem?
  intro i
  simp only [Array.getElem?_modify]
  by_cases h : j = i
  · simp [h]
    cases es[i]? <;> rfl
  · simp [h]
theorem push_modify (es : Array MapEntry) (e : MapEntry) (g : MapEntry → MapEntry) : (es.push e).modify es.size g = es.push (g e) := by
  apply Array.ext_getElem?
  intro i
  rw [Array.getElem?_modify, Array.getElem?_push, Array.getElem?_push]
  by_cases h : es.size = i
  · subst h
    simp
  · simp [h, Ne.symm h]
theorem setBlock_two (w : World) (b : Nat) (o o' : Obj) : setBlock (setBlock w b o) b o' = setBlock w b o' := by
  unfold setBlock
  congr 1
  simp

/-- An entry is made (or found), then written: as an update. -/
theorem entry_two {H : Type} {P : Program} {w : World} {t kt et : TypeId} {R : Value → Option (DataW H × List MemPlace)} {b : Nat} {es : Array MapEntry} {clock : Nat} (K : Maps.Keyed P kt) (ht : P.underlying t = some (.map kt et))
    (hb : w.heap[b]? = some (.map es clock)) (F : Fit P kt R es clock) {key : Value} {kl : Lit} (hkey : keyOf P kt key = some kl) {z : Value} (hz : (zeroValue et).run P w = .ok z w) (val : Value) :
    ∃ v0 st es1 clock1 es' clock', (Instr.mapEntry t (.map (some b)) key).run P w = .ok (.tuple #[v0, .int .i64 st]) (setBlock w b (.map es1 clock1)) ∧ (Instr.mapUpdate t (.map (some b)) key val).run P w = .ok () (setBlock w b (.map es' clock')) ∧ (Instr.lookup t (.map (some b)) key false).run P w = .ok v0 w ∧ (Instr.mapUpdate t (.map (some b)) key v0).run P w = .ok () (setBlock w b (.map es1 clock1)) ∧
      ∀ w1 : World, w1.heap[b]? = some (.map es1 clock1) → (Instr.entryStore t (.map (some b)) (.int .i64 st) val).run P w1 = .ok () (setBlock w1 b (.map es' clock')) := by
  rcases K.find w hkey es.toList F.keys with ⟨h1, h2⟩ | ⟨j, e0, h1, h2, h3⟩
  · refine ⟨z, clock, es.push ⟨key, z, clock⟩, clock + 1, es.push ⟨key, val, clock⟩, clock + 1, ?_, ?_, ?_, ?_, fun w1 hw1 => ?_⟩
    · simp [Instr.mapEntry, run_underlying ht, MapKept.run_getObj_map hb, K.check w false hkey, h1, hz, MapKept.run_setObj_map _ hb, Result.andThen, setBlock, goInt]
    · simp [Instr.mapUpdate, run_underlying ht, MapKept.run_getObj_map hb, K.check w false hkey, h1, MapKept.run_setObj_map _ hb, Result.andThen, setBlock]
    · simp [Instr.lookup, run_underlying ht, MapKept.run_getObj_map hb, K.check w es.isEmpty hkey, h1, hz, Result.andThen]
    · simp [Instr.mapUpdate, run_underlying ht, MapKept.run_getObj_map hb, K.check w false hkey, h1, MapKept.run_setObj_map _ hb, Result.andThen, setBlock]
    · have hfi : (es.push ⟨key, z, clock⟩).findIdx? (fun e : MapEntry => (e.born : Int) == (clock : Int)) = some es.size := by
        rw [Array.findIdx?_eq_some_iff_getElem]
        refine ⟨by simp, by simp, fun j hj => ?_⟩
        have hm : (es.push ⟨key, z, clock⟩)[j]'(by simp; omega) = es[j] := by simp [Array.getElem_push, hj]
        rw [hm]
        have := F.stamped.1 es[j] (by simp)
        simp only [beq_iff_eq]
        omega
      simp [Instr.entryStore, MapKept.run_getObj_map hw1, asInt, asIntOf, hfi, MapKept.run_setObj_map _ hw1, Result.andThen, setBlock, push_modify]
  · have hj : es[j]? = some e0 := by simpa using h2
    have hkeys : (Instr.keyThatStays e0.key key).run P w = .ok key w := by rw [h3]; exact K.stays w hkey
    refine ⟨e0.val, e0.born, es.modify j (fun e => { e with key := key }), clock, es.modify j (fun e => { e with key := key, val := val }), clock, ?_, ?_, ?_, ?_, fun w1 hw1 => ?_⟩
    · simp [Instr.mapEntry, run_underlying ht, MapKept.run_getObj_map hb, K.check w false hkey, h1, hj, hkeys, MapKept.run_setObj_map _ hb, Result.andThen, setBlock, goInt]
    · simp [Instr.mapUpdate, run_underlying ht, MapKept.run_getObj_map hb, K.check w false hkey, h1, hj, hkeys, MapKept.run_setObj_map _ hb, Result.andThen, setBlock]
    · simp [Instr.lookup, run_underlying ht, MapKept.run_getObj_map hb, K.check w es.isEmpty hkey, h1, Result.andThen]
    · have he : es.modify j (fun e => { e with key := key, val := e0.val }) = es.modify j (fun e => { e with key := key }) := by
        apply Array.ext_getElem?
        intro i
        simp only [Array.getElem?_modify]
        by_cases q : j = i
        · subst q
          simp [hj]
        · simp [q]
      rw [← he]
      simp [Instr.mapUpdate, run_underlying ht, MapKept.run_getObj_map hb, K.check w false hkey, h1, hj, hkeys, MapKept.run_setObj_map _ hb, Result.andThen, setBlock]
    · obtain ⟨hjl, hje⟩ := Array.getElem?_eq_some_iff.1 hj
      have hfi : (es.modify j (fun e => { e with key := key })).findIdx? (fun e : MapEntry => (e.born : Int) == (e0.born : Int)) = some j := by
        rw [Array.findIdx?_eq_some_iff_getElem]
        refine ⟨by simpa using hjl, ?_, fun i hi => ?_⟩
        · simp [Array.getElem_modify, hje]
        · rw [Array.getElem_modify]
          have hne : ¬ j = i := by omega
          rw [if_neg hne]
          have hnd := F.stamped.2.1
          intro q
          simp only [beq_iff_eq] at q
          have q' : es[i].born = es[j].born := by rw [hje]; omega
          have hp := List.pairwise_iff_getElem.1 hnd i j (by simp; omega) (by simpa using hjl) hi
          simp at hp
          exact hp q'
      simp [Instr.entryStore, MapKept.run_getObj_map hw1, asInt, asIntOf, hfi, MapKept.run_setObj_map _ hw1, Result.andThen, setBlock, modify_two]
end Go.Proofs.Ythlbplmghjaeoae
