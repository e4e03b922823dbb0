/- Maps that count: an entry written, how many there are; keys that are twelve numbers. -/
import Derived.Test.YthlbplmghjaeoaeMC
import Derived.Maps.OwnSet
namespace Go.Proofs.Ythlbplmghjaeoae
open Go.RowKit Go.MapKept Go.ChangeMaps Go.WideElems

section
variable {P : Program} {kt : TypeId} {κ : Type} (E : KeyLay P kt κ)
/-- Block b is the map f, of just c entries. -/
def VMS (w : World) (b c : Nat) (f : κ → Option Value) : Prop := ∃ D, w.ownsMap P kt heldR b c D ∧ VMap E D f ∧ Maps.size D = c
theorem VMS.vm {w : World} {b c : Nat} {f : κ → Option Value} (h : VMS E w b c f) : VM E w b c f := let ⟨D, h1, h2, _⟩ := h; ⟨D, h1, h2⟩
theorem VMS.made (w : World) : VMS E (w.alloc (.map #[] 0)) w.heap.size 0 (fun _ => none) := ⟨_, World.ownsMap_made _ _ _ _, VMap.nil E, rfl⟩
theorem VMS.lt {w : World} {b c : Nat} {f : κ → Option Value} (h : VMS E w b c f) : b < w.heap.size := (h.vm E).lt E
theorem VMS.kept {w w' : World} {b c : Nat} {f : κ → Option Value} (h : VMS E w b c f) (he : w'.heap[b]? = w.heap[b]?) : VMS E w' b c f := by
  obtain ⟨D, ⟨es, clock, h1, h2⟩, h3⟩ := h
  exact ⟨D, ⟨es, clock, by rw [he]; exact h1, h2⟩, h3⟩
theorem VMS.later {w w' : World} {b c : Nat} {f : κ → Option Value} (h : VMS E w b c f) (hb : Below w.heap.size w w') : VMS E w' b c f := h.kept E (hb.block b (h.lt E))
theorem VMS.len_run {w : World} {b c : Nat} {f : κ → Option Value} (h : VMS E w b c f) {t et : TypeId} (ht : P.underlying t = some (.map kt et)) (ty : TypeId) : (Builtin.len_ #[t] ty #[.map (some b)]).run P w = .ok (.int .i64 (c : Int)) w := by
  obtain ⟨D, h1, _, h3⟩ := h
  rw [← h3]
  exact h1.len ht ty
/-- An entry is made or found, then written. -/
theorem VMS.entry [DecidableEq κ] {w : World} {b c : Nat} {f : κ → Option Value} (h : VMS E w b c f) {t et : TypeId} (ht : P.underlying t = some (.map kt et)) {z : Value} (hz : ∀ w, (zeroValue et).run P w = .ok z w) (p : κ) (hp : E.ok p) (val : Value) (hc : c < 1099511627776) :
    ∃ v0 st w1, (Instr.lookup t (.map (some b)) (E.enc p) false).run P w1 = .ok ((f p).getD z) w1 ∧ (Instr.mapEntry t (.map (some b)) (E.enc p)).run P w = .ok (.tuple #[v0, .int .i64 st]) w1 ∧ Touch b w w1 ∧
      ∀ w2 : World, w2.heap[b]? = w1.heap[b]? → ∃ w3, (Instr.entryStore t (.map (some b)) (.int .i64 st) val).run P w2 = .ok () w3 ∧ Touch b w2 w3 ∧ w3.heap.size = w2.heap.size ∧ VMS E w3 b (if (f p).isSome then c else c + 1) (putF f p val) := by
  have hvm := h.vm E
  obtain ⟨D, hD, hV, hs⟩ := h
  have hti := hD.tidy E.keyed
  obtain ⟨w', hrun, hO, _⟩ := hD.update E.keyed ht (n := c) (by unfold maxLen; omega) (E.key p hp) (d := .held val) (ps := []) (R := heldR) (val := val) rfl
  obtain ⟨es, clock, hb, F, hle, hDe⟩ := id hD
  obtain ⟨v0, st, es1, clock1, es', clock', r1, r2, r4, r5, r3⟩ := entry_two E.keyed ht hb F (E.key p hp) (hz w) val
  have hv0 : v0 = (f p).getD z := by
    have h1 := VM.look_run E t et ht z (hz w) b c f hvm p hp
    rw [r4] at h1
    exact (Result.ok.inj h1).1
  obtain ⟨w9, h9, hv9, _⟩ := VM.put_run E t et ht b c f hvm p hp v0 hc
  rw [r5] at h9
  have hw9 := (Result.ok.inj h9).2
  subst hw9
  have hl9 := VM.look_run E t et ht z (hz _) b _ _ hv9 p hp
  rw [putF, if_pos rfl, Option.getD_some, hv0] at hl9
  rw [r2] at hrun
  have hw' : setBlock w b (.map es' clock') = w' := by
    have := Result.ok.inj hrun
    exact this.2
  have hbl : b < w.heap.size := (Array.getElem?_eq_some_iff.1 hb).1
  refine ⟨v0, st, _, hl9, r1, ?_, fun w2 hw2 => ?_⟩
  · exact ⟨rfl, rfl, rfl, by simp [setBlock], fun i _ hi => heap_setBlock_other hb _ (fun e => hi (by rw [e]))⟩
  · have hw2b : w2.heap[b]? = some (.map es1 clock1) := by rw [hw2]; exact heap_setBlock_same hb _
    refine ⟨_, r3 w2 hw2b, ⟨rfl, rfl, rfl, by simp [setBlock], fun i _ hi => heap_setBlock_other hw2b _ (fun e => hi (by rw [e]))⟩, by simp [setBlock], ?_⟩
    have hsz : Maps.size (D.put (E.lit p) (.held val)) = if (f p).isSome then c else c + 1 := by
      rw [Maps.size_put hti, hV.has E p hp, hs]
    subst hw'
    obtain ⟨es2, clock2, hb2, F2, hle2, hD2⟩ := hO
    have e2 := heap_setBlock_same hb (Obj.map es' clock')
    rw [e2] at hb2
    obtain ⟨rfl, rfl⟩ : es' = es2 ∧ clock' = clock2 := by simpa using hb2
    refine ⟨_, ⟨es', clock', heap_setBlock_same hw2b _, F2, ?_, hD2⟩, hV.put E p hp val, hsz⟩
    have e1 : es'.size = Maps.size (D.put (E.lit p) (.held val)) := by rw [hD2]; simp [Maps.size, length_sorted]
    rw [e1, hsz]
    exact Nat.le_refl _
end

/-- A key of twelve numbers. -/
def encK (l : List UInt8) : Value := .agg (byts l).toArray
def litK (l : List UInt8) : Lit := .string (keyBytes (l.map fun c => .int .u8 (c.toNat : Int)))
theorem byts_inj : ∀ x y : List UInt8, byts x = byts y → x = y
  | [], [], _ => rfl
  | [], _ :: _, h => by simp [byts] at h
  | _ :: _, [], h => by simp [byts] at h
  | a :: x, b :: y, h => by
    have h' : Value.int .u8 (a.toNat : Int) :: byts x = Value.int .u8 (b.toNat : Int) :: byts y := h
    obtain ⟨h1, h2⟩ := List.cons.inj h'
    have h3 : a.toNat = b.toNat := by
      have : (a.toNat : Int) = (b.toNat : Int) := by simpa using h1
      omega
    rw [UInt8.toNat_inj.1 h3, byts_inj x y h2]
theorem encK_inj (x y : List UInt8) (h : encK x = encK y) : x = y := by
  unfold encK at h
  exact byts_inj x y (by simpa using h)
theorem rowK : (43 : TypeId) < Try.prog.types.size := of_decide_eq_true (by kernel_rfl)
set_option maxRecDepth 100000 in
theorem wideK : (match Try.prog.underlying 43 with | some (.array _ _) | some (.struct _) => true | _ => false) = true := by rw [Try.underlying43]
set_option maxRecDepth 100000 in
theorem keyedK : Maps.Keyed Try.prog 43 := Maps.Keyed.of_law (deep_law_laid laidOutP (m := 2) (by omega) rowK (by kernel_rfl) wideK)
theorem keyTypeK : Try.prog.keyType 43 = true := by kernel_rfl
theorem cellsK : Try.prog.cellsOf 43 = 12 := by kernel_rfl
theorem u8_wf (c : UInt8) : (Lit.int .u8 (c.toNat : Int)).wf = true := by
  have hx : ∀ n : Fin 256, (Lit.int .u8 ((UInt8.ofNat n.val).toNat : Int)).wf = true := by decide +kernel
  have := hx ⟨c.toNat, c.toNat_lt⟩
  simpa using this
set_option maxRecDepth 100000 in
theorem formedK (cs : Array Value) (h : cs.size = 12) : (Value.agg cs).formed Try.prog 43 = true := by simp [Value.formed, Try.underlying43, cellsK, h]
set_option maxRecDepth 100000 in
theorem litK_of (l : List UInt8) (h : l.length = 12) : keyOf Try.prog 43 (encK l) = some (litK l) := by
  have hi : Try.prog.cellsOf 5 = 1 := by kernel_rfl
  have e0 : Try.prog.keyLits (Try.prog.types.size + 1) 43 (byts l) = some (l.map fun c => .int .u8 (c.toNat : Int)) := by
    obtain ⟨d, hd⟩ : ∃ d, Try.prog.types.size = d + 1 := ⟨_, (Nat.succ_pred_eq_of_pos (Nat.lt_of_le_of_lt (Nat.zero_le _) rowK)).symm⟩
    rw [hd]
    match l, h with
    | [a0, a1, a2, a3, a4, a5, a6, a7, a8, a9, a10, a11], _ =>
      simp [Program.keyLits, Try.underlying43, Try.underlying5, cellsK, hi, byts, u8_wf, show List.range 12 = [0, 1, 2, 3, 4, 5, 6, 7, 8, 9, 10, 11] from rfl]
  unfold keyOf
  rw [Try.underlying43]
  have hf := formedK (byts l).toArray (by simp [h])
  simp only [keyTypeK, encK, hf, Bool.and_self, if_true]
  rw [show (Value.agg (byts l).toArray).cells.toList = byts l from rfl, e0]
  rfl
/-- Maps from twelve numbers. -/
def keyK : KeyLay Try.prog 43 (List UInt8) where
  enc := encK
  lit := litK
  ok := fun l => l.length = 12
  keyed := keyedK
  key := fun x h => litK_of x h
  inj := fun x y _ _ h => encK_inj x y h
  isKey := fun _ => trivial
end Go.Proofs.Ythlbplmghjaeoae
