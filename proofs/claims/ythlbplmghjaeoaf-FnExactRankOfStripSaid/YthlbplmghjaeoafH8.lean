/- Strips: maps from ends to ways. -/
import Derived.Test.YthlbplmghjaeoafH2
import Derived.Test.YthlbplmghjaeoafH7
import Derived.Test.YthlbplmghjaeoafQ1
namespace Go.Proofs.Ythlbplmghjaeoaf
open Go.RowKit

/-- An end (the walk does not look into it). -/
def LS : Type := Bool × Bool
instance : DecidableEq LS := inferInstanceAs (DecidableEq (Bool × Bool))
def litE (e : Bool × Bool) : Lit := .string (keyBytes [.int .u8 ((sgM e.1).toNat : Int), .int .u8 ((sgM e.2).toNat : Int)])
theorem rowLS : (44 : TypeId) < Try.prog.types.size := of_decide_eq_true (by kernel_rfl)
set_option maxRecDepth 100000 in
theorem wideLS : (match Try.prog.underlying 44 with | some (.array _ _) | some (.struct _) => true | _ => false) = true := by rw [Try.underlying44]
set_option maxRecDepth 100000 in
theorem keyedLS : Maps.Keyed Try.prog 44 := Maps.Keyed.of_law (deep_law_laid laidOutP (m := 2) (by omega) rowLS (by kernel_rfl) wideLS)
theorem keyTypeLS : Try.prog.keyType 44 = true := by kernel_rfl
theorem cellsLS : Try.prog.cellsOf 44 = 2 := by kernel_rfl
set_option maxRecDepth 100000 in
theorem formedLS (c0 c1 : Value) : (Value.agg #[c0, c1]).formed Try.prog 44 = true := by simp [Value.formed, Try.underlying44, cellsLS]
theorem sgM_wf (m : Bool) : (Lit.int .u8 ((sgM m).toNat : Int)).wf = true := by cases m <;> decide
set_option maxRecDepth 100000 in
theorem litE_of (e : Bool × Bool) : keyOf Try.prog 44 (encE e) = some (litE e) := by
  have w1 := sgM_wf e.1
  have w2 := sgM_wf e.2
  have hi : Try.prog.cellsOf 5 = 1 := by kernel_rfl
  have e0 : Try.prog.keyLits (Try.prog.types.size + 1) 44 [.int .u8 ((sgM e.1).toNat : Int), .int .u8 ((sgM e.2).toNat : Int)] = some [.int .u8 ((sgM e.1).toNat : Int), .int .u8 ((sgM e.2).toNat : Int)] := by
    obtain ⟨d, hd⟩ : ∃ d, Try.prog.types.size = d + 1 := ⟨_, (Nat.succ_pred_eq_of_pos (Nat.lt_of_le_of_lt (Nat.zero_le _) rowLS)).symm⟩
    rw [hd]
    simp [Program.keyLits, Try.underlying44, Try.underlying5, cellsLS, hi, w1, w2, show List.range 2 = [0, 1] from rfl]
  unfold keyOf
  rw [Try.underlying44]
  simp only [keyTypeLS, encE, formedLS, Bool.and_self, if_true]
  rw [show (Value.agg #[.int .u8 ((sgM e.1).toNat : Int), .int .u8 ((sgM e.2).toNat : Int)]).cells.toList = [.int .u8 ((sgM e.1).toNat : Int), .int .u8 ((sgM e.2).toNat : Int)] from rfl, e0]
  rfl
theorem encE_inj (x y : Bool × Bool) (h : encE x = encE y) : x = y := by
  obtain ⟨a, b⟩ := x
  obtain ⟨c, d⟩ := y
  cases a <;> cases b <;> cases c <;> cases d <;> first | rfl | (exfalso; simp [encE, sgM] at h)
/-- Maps from ends. -/
def keyLS : KeyLay Try.prog 44 LS where
  enc := encE
  lit := litE
  ok := fun _ => True
  keyed := keyedLS
  key := fun x _ => litE_of x
  inj := fun x y _ _ h => encE_inj x y h
  isKey := fun _ => trivial
/-- All ends. -/
def endsLS : List LS := [((true, true) : Bool × Bool), ((true, false) : Bool × Bool), ((false, true) : Bool × Bool), ((false, false) : Bool × Bool)]
theorem endsLS_nodup : endsLS.Nodup := by decide +kernel
theorem endsLS_all (e : LS) : e ∈ endsLS := by
  have h : ∀ a b : Bool, (a, b) ∈ [(true, true), (true, false), (false, true), (false, false)] := by decide
  exact h e.1 e.2

section
variable {ε : Type}
/-- A map has the ways of each end; where it has none there are none. -/
def WaysOf (M : ε → Option Value) (h : ε → Nat → Nat) : Prop := ∀ e, M e = some (.agg (wvA (h e))) ∨ (M e = none ∧ ∀ k, k < 41 → h e k = 0)
theorem WaysOf.getD {M : ε → Option Value} {h : ε → Nat → Nat} (H : WaysOf M h) (e : ε) : (M e).getD (.agg (wvA fun _ => 0)) = .agg (wvA (h e)) := by
  rcases H e with q | ⟨q, q2⟩
  · rw [q]; rfl
  · rw [q]; exact congrArg Value.agg (wvA_congr fun k hk => (q2 k hk).symm)
theorem WaysOf.nil : WaysOf (fun _ : ε => none) (fun _ _ => 0) := fun _ => .inr ⟨rfl, fun _ _ => rfl⟩
theorem wvA_inj {f g : Nat → Nat} (h : wvA f = wvA g) {k : Nat} (hk : k < 41) : f k = g k := by
  have h1 := wvA_get f hk
  rw [h, wvA_get g hk] at h1
  simp at h1
  omega
theorem WaysOf.get {M : ε → Option Value} {h : ε → Nat → Nat} (H : WaysOf M h) {e : ε} {v : Value} (hv : M e = some v) : v = .agg (wvA (h e)) := by
  rcases H e with q | ⟨q, _⟩
  · rw [hv] at q; exact Option.some.inj q
  · rw [hv] at q; cases q
theorem WaysOf.put [DecidableEq ε] {M : ε → Option Value} {h : ε → Nat → Nat} (H : WaysOf M h) (a : ε) (o : Nat → Nat) (g : Nat) : WaysOf (putF M a (.agg (wvA fun j => h a j + shiftF o g j))) (addE h a o g) := by
  intro e
  by_cases he : e = a
  · subst he
    refine .inl ?_
    rw [putF, if_pos rfl]
    exact congrArg (fun x => some (Value.agg x)) (wvA_congr fun k _ => by rw [addE, if_pos rfl])
  · rw [putF, if_neg he, show addE h a o g e = h e by funext j; rw [addE, if_neg he]]
    exact H e
end
end Go.Proofs.Ythlbplmghjaeoaf
