/- General lemmas for the walks of this seat: rows of cells that a call owns, slices that read as numbers or texts. -/
import Derived.Test.YthlbplmghjaeoaaDoorProg
import Derived.WalkKit
import Derived.WalkSpells
import Derived.Lib.Hide
import Derived.KernelRfl
import Derived.Lib.AppendStr
namespace Go.Proofs.YthlbplmghjaeoaaDoor
open Go.RowKit

/-- The cell n places behind an address. -/
theorem cell_new (w : World) (o : Obj) (b : Nat) (h : b < w.heap.size) (j : Nat) : (w.alloc o).cell? ⟨b, j, none⟩ = w.cell? ⟨b, j, none⟩ :=
  World.cell?_of_block (w := w) (Below.heap_alloc _ _ _ h)

/-- What is known of an element type of one cell. -/
structure Elem (P : Program) (t e : TypeId) (z : Value) (bytes : Nat) : Prop where
  und : P.underlying t = some (.slice e)
  info : ∃ i, P.info? e = some i ∧ i.zero = some z ∧ i.size = 1 ∧ i.bytes = bytes
  one : z.cells.size = 1

/-- The call owns a row of the cells xs from block B on. -/
def Owns (w : World) (B e : Nat) (v : Value) (xs : List Value) : Prop := w.ownsRow B e 1 v xs.length xs

theorem Owns.nil (w : World) (B e : Nat) : Owns w B e (.slice none 0 0) [] := World.ownsRow_nil _ _ _ _

theorem Owns.below {w w' : World} {B e : Nat} {v : Value} {xs : List Value} (h : Owns w B e v xs) {C : Nat} (hC : ∀ k, v.ownBlock = some k → k < C) (hb : Below C w w') : Owns w' B e v xs := by
  obtain ⟨h1, h2⟩ := h
  refine ⟨h1, ?_⟩
  rcases h2 with h2 | ⟨g, cap, cur, hv, hg, hh, r⟩
  · exact .inl h2
  · exact .inr ⟨g, cap, cur, hv, hg, by rw [hb.block g (hC g (by rw [hv]; rfl))]; exact hh, r⟩

theorem Owns.lt {w : World} {B e : Nat} {v : Value} {xs : List Value} (h : Owns w B e v xs) : ∀ k, v.ownBlock = some k → B ≤ k ∧ k < w.heap.size := World.ownsRow.lt h

/-- What is owned stays when only blocks behind the heap's end come. -/
theorem Owns.later {w w' : World} {B e : Nat} {v : Value} {xs : List Value} (h : Owns w B e v xs) (hb : Below w.heap.size w w') : Owns w' B e v xs :=
  h.below (fun k hk => (h.lt k hk).2) hb

theorem Owns.mono {w : World} {B B' e : Nat} {v : Value} {xs : List Value} (h : Owns w B e v xs) (hB : B' ≤ B) : Owns w B' e v xs := by
  obtain ⟨h1, h2⟩ := h
  refine ⟨h1, ?_⟩
  rcases h2 with h2 | ⟨g, cap, cur, hv, hg, r⟩
  · exact .inl h2
  · exact .inr ⟨g, cap, cur, hv, by omega, r⟩

/-- The slice's value is its length's. -/
theorem Owns.shape {w : World} {B e : Nat} {v : Value} {xs : List Value} (h : Owns w B e v xs) : ∃ a cap, v = .slice a xs.length cap := by
  obtain ⟨h1, h2⟩ := h
  rcases h2 with ⟨hv, hn⟩ | ⟨g, cap, cur, hv, r⟩
  · exact ⟨none, 0, by rw [hv, hn]⟩
  · exact ⟨_, cap, hv⟩

/-- The slice at a holds the cells xs. -/
def At (w : World) (a : Option Addr) (xs : List Value) : Prop :=
  ∀ k, (h : k < xs.length) → ∃ b off, a = some ⟨b, off, none⟩ ∧ w.cell? ⟨b, off + k, none⟩ = some xs[k]

theorem Owns.at {w : World} {B e : Nat} {a : Option Addr} {n cap : Nat} {xs : List Value} (h : Owns w B e (.slice a n cap) xs) : At w a xs := by
  intro k hk
  obtain ⟨h1, h2⟩ := h
  rcases h2 with ⟨hv, hn⟩ | ⟨g, cap', cur, hv, hg, hh, h3, h4, h5, h6⟩
  · omega
  · obtain ⟨rfl, rfl, rfl⟩ : a = some ⟨g, 0, none⟩ ∧ n = xs.length ∧ cap = cap' := by simpa using hv
    refine ⟨g, 0, rfl, ?_⟩
    have e1 : cur.toList.take (xs.length * 1) = xs := h6
    have e2 : xs[k] = cur.toList[k]'(by simp; omega) := by
      have : xs[k]? = (cur.toList.take (xs.length * 1))[k]? := by rw [e1]
      rw [List.getElem?_take_of_lt (by omega)] at this
      simpa [hk, show k < cur.size by omega] using this
    rw [e2]
    simp [World.cell?, hh, show k < cur.size by omega]

theorem At.lt {w : World} {a : Option Addr} {xs : List Value} (h : At w a xs) (hne : 0 < xs.length) : ∃ b off, a = some ⟨b, off, none⟩ ∧ b < w.heap.size := by
  obtain ⟨b, off, rfl, hc⟩ := h 0 hne
  exact ⟨b, off, rfl, World.block_lt_of_cell? w _ hc⟩

/-- A reading stands when only blocks behind the heap's end come. -/
theorem At.later {w w' : World} {a : Option Addr} {xs : List Value} (h : At w a xs) {B : Nat} (hB : B = w.heap.size) (hb : Below B w w') : At w' a xs := by
  intro k hk
  obtain ⟨b, off, rfl, hc⟩ := h k hk
  have := World.block_lt_of_cell? w _ hc
  exact ⟨b, off, rfl, by rw [hb.cell (p := ⟨b, off + k, none⟩) (by rw [hB]; exact this)]; exact hc⟩

/-- The same, where the reading stood in an elder world already: its cells lie in that world's blocks. -/
theorem At.below {w0 w w' : World} {a : Option Addr} {xs : List Value} (h : At w a xs) (h0 : At w0 a xs) {B : Nat} (hB : w0.heap.size ≤ B) (hb : Below B w w') : At w' a xs := by
  intro k hk
  obtain ⟨b, off, ha, hc⟩ := h k hk
  obtain ⟨b', off', ha', hc'⟩ := h0 k hk
  have := World.block_lt_of_cell? w0 _ hc'
  obtain ⟨rfl, rfl⟩ : b = b' ∧ off = off' := by rw [ha] at ha'; simpa using ha'
  exact ⟨b, off, ha, by rw [hb.cell (p := ⟨b, off + k, none⟩) (by simp at this ⊢; omega)]; exact hc⟩

theorem At.drew {w : World} {a : Option Addr} {xs : List Value} (h : At w a xs) : At w.drew a xs := h

/-- append of one element to a row that the call owns. -/
theorem wpList_app1 {P : Program} {ops : Array Oper} {rest : List Oper} {o : Oper} {a : Act} {Q : Exit → Act → World → Prop} {w : World} (hgd : o.guard = none) (s x : Operand) (t : TypeId)
    (ho : o.op = .call { callee := .builtin .append, args := #[s, x], argTypes := #[t, t] })
    (B e bytes : Nat) (z : Value) (E : Elem P t e z bytes) (v : Value) (xs : List Value) (x0 : Value) (w0 : World) (hw : w = w0.alloc (.cells #[x0] e)) (hx1 : x0.oneCell' = true)
    (hs : a.eval s = v) (hown : Owns w0 B e v xs) (hx : a.eval x = .slice (some ⟨w0.heap.size, 0, none⟩) 1 1)
    (hlen : (xs.length + 1) * bytes ≤ 140737488355328) (hB : B ≤ w0.heap.size) (hlen' : xs.length < 1099511627776)
    (h : ∀ v' w', Owns w' B e v' (xs ++ [x0]) → Below B w0 w' → w0.heap.size < w'.heap.size → wpList P ops Q rest (a.put o.dst v') w') : wpList P ops Q (o :: rest) a w := by
  subst hw
  obtain ⟨i, hi, hz, hsz, hby⟩ := E.info
  refine wpList_append_own _ hgd s x t ho B e i z 1 bytes E.und hi hz hsz hby E.one (by decide) v xs.length xs hs (World.ownsRow.alloc hown _) ⟨w0.heap.size, 0, none⟩ 1 1 [x0] hx rfl ?_ ?_ ?_ hlen (by simp; omega) ?_
  · exact cell_one_new _ _ _
  · simpa using hx1
  · unfold maxLen; omega
  · intro v' w' h1 h2 _
    refine h v' w' (by simpa [Owns] using h1) ?_ (by have := h2.size; simp at this; omega)
    exact ((Below.refl B w0).alloc hB _).grown h2 (by simp; omega) (fun k hk => (Owns.lt hown k hk).1)

/-- A text of bytes as the walk meets it. -/
@[simp, go_sem] theorem ba_get (l : List UInt8) (k : Nat) (h : k < (ByteArray.mk l.toArray).size) : (ByteArray.mk l.toArray)[k] = l[k]'(by simpa [ByteArray.size] using h) := rfl
attribute [go_sem] ByteArray.extract_mk ByteArray.mk_append_mk

/-- A row of numbers, of texts. -/
def ints (xs : List Int) : List Value := xs.map (Value.int .i64)
def txts (xs : List (List UInt8)) : List Value := xs.map fun l => Value.string ⟨l.toArray⟩
@[simp] theorem ints_length (xs : List Int) : (ints xs).length = xs.length := by simp [ints]
@[simp] theorem txts_length (xs : List (List UInt8)) : (txts xs).length = xs.length := by simp [txts]
theorem ints_snoc (xs : List Int) (x : Int) : ints xs ++ [.int .i64 x] = ints (xs ++ [x]) := by simp [ints]
theorem txts_snoc (xs : List (List UInt8)) (x : List UInt8) : txts xs ++ [.string ⟨x.toArray⟩] = txts (xs ++ [x]) := by simp [txts]

theorem ints_at {w : World} {a : Option Addr} {xs : List Int} (h : At w a (ints xs)) (k : Nat) (hk : k < xs.length) : ∃ b off, a = some ⟨b, off, none⟩ ∧ w.cell? ⟨b, off + k, none⟩ = some (.int .i64 xs[k]) := by
  obtain ⟨b, off, h1, h2⟩ := h k (by simpa using hk)
  exact ⟨b, off, h1, by rw [h2]; simp [ints]⟩

theorem txts_at {w : World} {a : Option Addr} {xs : List (List UInt8)} (h : At w a (txts xs)) (k : Nat) (hk : k < xs.length) : ∃ b off, a = some ⟨b, off, none⟩ ∧ w.cell? ⟨b, off + k, none⟩ = some (.string ⟨xs[k].toArray⟩) := by
  obtain ⟨b, off, h1, h2⟩ := h k (by simpa using hk)
  exact ⟨b, off, h1, by rw [h2]; simp [txts]⟩

/-- Nothing that was there has turned. -/
def Ret (v : Value) (w : World) : Ending → World → Prop := fun e w' => e = .returned v ∧ Below w.heap.size w w'

def byts (l : List UInt8) : List Value := l.map fun c => Value.int .u8 (c.toNat : Int)
@[simp] theorem byts_length (l : List UInt8) : (byts l).length = l.length := by simp [byts]
theorem byts_append (l r : List UInt8) : byts l ++ byts r = byts (l ++ r) := by simp [byts]

theorem byts_at {w : World} {a : Option Addr} {xs : List UInt8} (h : At w a (byts xs)) (k : Nat) (hk : k < xs.length) : ∃ b off, a = some ⟨b, off, none⟩ ∧ w.cell? ⟨b, off + k, none⟩ = some (.int .u8 (xs[k].toNat : Int)) := by
  obtain ⟨b, off, h1, h2⟩ := h k (by simpa using hk)
  exact ⟨b, off, h1, by rw [h2]; simp [byts]⟩

/-- append of a text to a row of bytes that the call owns. -/
theorem wpList_appS {P : Program} {ops : Array Oper} {rest : List Oper} {o : Oper} {a : Act} {Q : Exit → Act → World → Prop} {w : World} (hgd : o.guard = none) (s x : Operand) (t u : TypeId)
    (ho : o.op = .call { callee := .builtin .append, args := #[s, x], argTypes := #[t, u] })
    (B e : Nat) (E : Elem P t e (.int .u8 0) 1) (hu : P.underlying u = some .string) (v : Value) (xs l : List UInt8)
    (hs : a.eval s = v) (hown : Owns w B e v (byts xs)) (hx : a.eval x = .string ⟨l.toArray⟩)
    (hlen : xs.length + l.length < 1099511627776) (hB : B ≤ w.heap.size)
    (h : ∀ va cap w', Owns w' B e (.slice va (xs.length + l.length) cap) (byts (xs ++ l)) → Below B w w' → wpList P ops Q rest (a.put o.dst (.slice va (xs.length + l.length) cap)) w') : wpList P ops Q (o :: rest) a w := by
  obtain ⟨i, hi, hz, hsz, hby⟩ := E.info
  refine Lib.wpList_append_own_string _ hgd s x t u ho B e i E.und hu hi hz hsz hby v (byts xs).length (byts xs) hs hown ⟨l.toArray⟩ hx ?_ ?_ hB ?_
  · simp [ByteArray.size, maxLen]; omega
  · simp [ByteArray.size]; omega
  · intro v' w' h1 h2 _
    have hb := (Below.refl B w).grown h2 hB (fun k hk => (Owns.lt hown k hk).1)
    have e1 : Lib.strCells ⟨l.toArray⟩ = byts l := by simp [Lib.strCells, byts]
    rw [e1, byts_append] at h1
    have e2 : (byts xs).length + (ByteArray.mk l.toArray).size = (byts (xs ++ l)).length := by simp [ByteArray.size]
    rw [e2] at h1
    obtain ⟨va, cap, hv⟩ := Owns.shape h1
    have e3 : (byts (xs ++ l)).length = xs.length + l.length := by simp
    rw [e3] at hv
    rw [hv]
    refine h va cap w' ?_ hb
    rw [← hv]
    exact h1

/-- The block of a variable of the call's own. -/
theorem cell_of_block {w : World} {g : Nat} {cur : Array Value} {e : TypeId} {fr : Nat × Nat} (h : w.heap[g]? = some (.cells cur e fr)) (j : Nat) : w.cell? ⟨g, j, none⟩ = cur[j]? := by
  simp [World.cell?, h]
theorem frozen_of_block {w : World} {g : Nat} {cur : Array Value} {e : TypeId} (h : w.heap[g]? = some (.cells cur e (0, 0))) (j : Nat) : w.frozen? ⟨g, j, none⟩ = false := by
  simp [World.frozen?, h]
theorem block_lt {w : World} {g : Nat} {o : Obj} (h : w.heap[g]? = some o) : g < w.heap.size := by
  obtain ⟨h, _⟩ := Array.getElem?_eq_some_iff.1 h
  exact h
theorem block_set {w : World} {g : Nat} {cur : Array Value} {e : TypeId} {fr : Nat × Nat} (h : w.heap[g]? = some (.cells cur e fr)) (j : Nat) (v : Value) :
    (w.setCell ⟨g, j, none⟩ v).heap[g]? = some (.cells (cur.setIfInBounds j v) e fr) := by
  simp [World.setCell, Array.getElem?_modify, h]
theorem Below.set {w : World} {g : Nat} (j : Nat) (v : Value) : Below g w (w.setCell ⟨g, j, none⟩ v) := (Below.refl g w).setCell (p := ⟨g, j, none⟩) (Nat.le_refl _) _
/-- What is owned stays where its block does. -/
theorem Owns.heapOf {w w' : World} {B e : Nat} {v : Value} {xs : List Value} (h : Owns w B e v xs) (he : ∀ k, v.ownBlock = some k → w'.heap[k]? = w.heap[k]?) : Owns w' B e v xs := by
  obtain ⟨h1, h2⟩ := h
  refine ⟨h1, ?_⟩
  rcases h2 with h2 | ⟨g, cap, cur, hv, hg, hh, r⟩
  · exact .inl h2
  · exact .inr ⟨g, cap, cur, hv, hg, by rw [he g (by rw [hv]; rfl)]; exact hh, r⟩
/-- What lies in other blocks is still owned behind a store. -/
theorem Owns.set {w : World} {B e : Nat} {v : Value} {xs : List Value} (h : Owns w B e v xs) (g j : Nat) (u : Value) (hg : g < B) : Owns (w.setCell ⟨g, j, none⟩ u) B e v xs := by
  obtain ⟨h1, h2⟩ := h
  refine ⟨h1, ?_⟩
  rcases h2 with h2 | ⟨g', cap, cur, hv, hg', hh, r⟩
  · exact .inl h2
  · exact .inr ⟨g', cap, cur, hv, hg', by rw [Below.heap_setCell _ _ _ _ (by simp; omega)]; exact hh, r⟩

theorem elemInt : Elem Tryd.prog 47 3 (.int .i64 0) 8 := ⟨Tryd.underlying47, info_parts (by kernel_rfl), rfl⟩
theorem elemStr : Elem Tryd.prog 93 9 (.string ⟨#[]⟩) 16 := ⟨Tryd.underlying93, info_parts (by kernel_rfl), rfl⟩
theorem elemByte : Elem Tryd.prog 56 5 (.int .u8 0) 1 := ⟨Tryd.underlying56, info_parts (by kernel_rfl), rfl⟩
end Go.Proofs.YthlbplmghjaeoaaDoor
