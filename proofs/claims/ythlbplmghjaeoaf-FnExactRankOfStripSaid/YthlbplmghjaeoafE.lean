/- Walks: the laws' own helpers on lists of numbers: held against each other, marked, asked for their marks. -/
import Derived.Test.YthlbplmghjaeoafGS2
import Derived.Deep.QuietTactic
import Derived.BigQuiet
import Derived.WalkSmall
import Derived.Outline
namespace Go.Proofs.Ythlbplmghjaeoaf
open Go.RowKit

theorem At.drewN {w : World} {a : Option Addr} {xs : List Value} (h : At w a xs) (n : Nat) : At (w.drewN n) a xs := by
  intro k hk
  obtain ⟨b, off, ha, hc⟩ := h k hk
  exact ⟨b, off, ha, by simpa using hc⟩

/-- The numbers k, k + 1, .. . -/
def seqI (k : Int) : Nat → List Int
  | 0 => []
  | n + 1 => k :: seqI (k + 1) n
@[simp] theorem seqI_length (k : Int) : ∀ n, (seqI k n).length = n
  | 0 => rfl
  | n + 1 => by rw [seqI, List.length_cons, seqI_length]
theorem seqI_get (n : Nat) : ∀ (k : Int) (j : Nat) (h : j < (seqI k n).length), (seqI k n)[j] = k + j := by
  induction n with
  | zero => intro k j h; simp at h
  | succ n ih =>
    intro k j h
    cases j with
    | zero => simp [seqI]
    | succ j => simp only [seqI, List.getElem_cons_succ]; rw [ih]; omega

theorem seqI_snoc (j : Nat) : ∀ k : Int, seqI k (j + 1) = seqI k j ++ [k + j] := by
  induction j with
  | zero => intro k; simp [seqI]
  | succ j ih =>
    intro k
    rw [seqI, ih (k + 1)]
    simp only [seqI, List.cons_append, List.cons.injEq, true_and]
    congr 2
    omega



theorem Owns.store {w : World} {B e g n cap : Nat} {xs : List Value} (h : Owns w B e (.slice (some ⟨g, 0, none⟩) n cap) xs) (j : Nat) (u : Value) :
    Owns (w.setCell ⟨g, j, none⟩ u) B e (.slice (some ⟨g, 0, none⟩) n cap) (xs.set j u) := by
  obtain ⟨a', cap', hv⟩ := h.shape
  have hn : n = xs.length := by simp at hv; exact hv.2.1
  subst hn
  have := (World.ownsRow.stored h j u).1
  unfold Owns
  rw [List.length_set]
  exact this

end Go.Proofs.Ythlbplmghjaeoaf
