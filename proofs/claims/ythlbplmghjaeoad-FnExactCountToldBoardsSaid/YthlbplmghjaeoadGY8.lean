/- Y8, Y9, YA, laid as one text. -/
import Derived.Test.YthlbplmghjaeoadGY1
import Derived.Test.YthlbplmghjaeoadT7
import Derived.Outline
import Derived.Test.YthlbplmghjaeoadGN1

/- Opening: the cells that a click opens, by the model. -/
namespace Go.Proofs.Ythlbplmghjaeoad
open Go.RowKit

theorem hasI_nat (xs : List Nat) (n : Nat) : hasI (xs.map Int.ofNat) (n : Int) = decide (n ∈ xs) := by
  rw [Bool.eq_iff_iff]
  simp only [hasI, List.any_eq_true, List.mem_map, beq_iff_eq, decide_eq_true_eq]
  constructor
  · rintro ⟨x, ⟨y, hy, rfl⟩, h⟩
    have : y = n := Int.ofNat.inj h
    rwa [← this]
  · intro h
    exact ⟨(n : Int), ⟨n, h, rfl⟩, rfl⟩
theorem Owns.empty (w : World) (B e : Nat) (hB : B ≤ w.heap.size) : Owns (w.alloc (.cells #[] e)) B e (.slice (some ⟨w.heap.size, 0, none⟩) 0 0) [] := by
  refine ⟨by simp, .inr ⟨w.heap.size, 0, #[], by simp, hB, heap_alloc_new w _, by simp, by simp [maxLen], by simp, by simp⟩⟩
theorem At.take {w : World} {a : Option Addr} {xs : List Value} (h : At w a xs) (k : Nat) : At w a (xs.take k) := by
  intro j hj
  have hj' : j < xs.length := by simp at hj; omega
  obtain ⟨b, off, ha, hc⟩ := h j hj'
  exact ⟨b, off, ha, by rw [hc]; simp⟩
theorem At.drop {w : World} {g off : Nat} {xs : List Value} (h : At w (some ⟨g, off, none⟩) xs) (k : Nat) : At w (some ⟨g, off + k, none⟩) (xs.drop k) := by
  intro j hj
  have hj' : k + j < xs.length := by simp at hj; omega
  obtain ⟨b, off', ha, hc⟩ := h (k + j) hj'
  simp only [Option.some.injEq, Addr.mk.injEq, and_true] at ha
  obtain ⟨rfl, rfl⟩ := ha
  exact ⟨g, off + k, rfl, by rw [Nat.add_assoc, hc]; simp⟩
theorem At.nil (w : World) (a : Option Addr) : At w a [] := by intro k hk; simp at hk
theorem nats_take (xs : List Nat) (k : Nat) : nats (xs.take k) = (nats xs).take k := by simp [nats, ints, List.map_take]
theorem nats_drop (xs : List Nat) (k : Nat) : nats (xs.drop k) = (nats xs).drop k := by simp [nats, ints, List.map_drop]

end Go.Proofs.Ythlbplmghjaeoad

/- Opening: the search over zeros, by the model. -/
namespace Go.Proofs.Ythlbplmghjaeoad
open Go.RowKit

/-- Two values own no block in common. -/
def Apart (v u : Value) : Prop := ∀ k, v.ownBlock = some k → u.ownBlock ≠ some k
theorem Apart.fresh {w : World} {B e : Nat} {v u : Value} {xs : List Value} (h : Owns w B e v xs) (hu : ∀ k, u.ownBlock = some k → w.heap.size ≤ k) : Apart v u := by
  intro k hk hk2
  have h1 := (h.lt k hk).2
  have h2 := hu k hk2
  omega
theorem Apart.symm {v u : Value} (h : Apart v u) : Apart u v := fun k hk hk2 => h k hk2 hk

/-- append of one element to a row that the call owns, with what becomes of other rows. -/
theorem wpList_app1K {P : Program} {ops : Array Oper} {rest : List Oper} {o : Oper} {a : Act} {Q : Exit → Act → World → Prop} {w : World} (hgd : o.guard = none) (s x : Operand) (t : TypeId)
    (ho : o.op = .call { callee := .builtin .append, args := #[s, x], argTypes := #[t, t] })
    (B e bytes : Nat) (z : Value) (E : Elem P t e z bytes) (v : Value) (xs : List Value) (x0 : Value) (w0 : World) (hw : w = w0.alloc (.cells #[x0] e)) (hx1 : x0.oneCell' = true)
    (hs : a.eval s = v) (hown : Owns w0 B e v xs) (hx : a.eval x = .slice (some ⟨w0.heap.size, 0, none⟩) 1 1)
    (hlen : (xs.length + 1) * bytes ≤ 140737488355328) (hB : B ≤ w0.heap.size) (hlen' : xs.length < 1099511627776)
    (h : ∀ v' w', Owns w' B e v' (xs ++ [x0]) → Below B w0 w' → w0.heap.size < w'.heap.size → (∀ B' e' u ys, Owns w0 B' e' u ys → Apart v u → Owns w' B' e' u ys ∧ Apart v' u) → wpList P ops Q rest (a.put o.dst v') w') : wpList P ops Q (o :: rest) a w := by
  subst hw
  obtain ⟨i, hi, hz, hsz, hby⟩ := E.info
  refine wpList_plain hgd fun K hK => ?_
  obtain ⟨v', w', hrun, h2, h3, _, h5⟩ := run_append_own_at (P := P) (w0.alloc (.cells #[x0] e)) B t o.type e i z 1 bytes E.und hi hz hsz hby E.one (by decide) v xs.length xs (World.ownsRow.alloc hown _) ⟨w0.heap.size, 0, none⟩ 1 1 [x0] rfl (cell_one_new _ _ _) (by simpa using hx1) (by unfold maxLen; omega) hlen (by simp; omega)
  have hsz2 : w0.heap.size < w'.heap.size := by have := h3.size; simp at this; omega
  unfold Oper.wp execOp
  simp only [ho, resolve, invoke, builtin, Sem.run_bind, Sem.run_pure, Result.andThen_ok, List.map_toArray, List.map_cons, List.map_nil, hs, hx, hrun]
  refine hK _ _ (h v' w' (by simpa [Owns] using h2) (((Below.refl B w0).alloc hB _).grown h3 (by simp; omega) (fun k hk => (Owns.lt hown k hk).1)) hsz2 ?_)
  intro B' e' u ys hu hap
  refine ⟨World.ownsRow.kept (World.ownsRow.alloc hu _) h3 ?_, ?_⟩
  · cases hv : u.ownBlock with
    | none => exact .inl rfl
    | some k => exact .inr fun e => hap k e.symm hv
  · intro k hk hk2
    rcases h5 with h5 | h5
    · exact hap k (h5 ▸ hk) hk2
    · rw [h5] at hk
      have h6 := (Owns.lt hu k hk2).2
      simp at hk
      omega

end Go.Proofs.Ythlbplmghjaeoad

/- Opening: the search over zeros, by the model, walked. -/
namespace Go.Proofs.Ythlbplmghjaeoad
open Go.RowKit

/-- boNear of the model, over numbers. -/
theorem boNearN_any (W H n c : Nat) (w : World) (hW : 1 ≤ W ∧ W ≤ 8) (hH : H ≤ 8) (hn : n = W * H) (hc : c < n) :
    Calls Try.prog 45 #[.int .i64 W, .int .i64 H, .int .i64 c] w fun e w' => ∃ a cap, e = .returned (.slice a (nearM W n c).length cap) ∧ Owns w' w.heap.size 3 (.slice a (nearM W n c).length cap) (nats (nearM W n c)) ∧ Below w.heap.size w w' := by
  subst hn
  have h64 : W * H ≤ 64 := Nat.mul_le_mul hW.2 hH
  have h := boNear_any W H c w hW hH (by omega)
  rw [near_eq W H c hW.2 hH hc, List.length_map] at h
  exact h


end Go.Proofs.Ythlbplmghjaeoad
