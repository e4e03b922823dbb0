/- Walks: the laws' own helpers on lists of numbers: held against each other, marked, asked for their marks. -/
import Derived.Test.YthlbplmghjaeoaeGS2
import Derived.Deep.QuietTactic
import Derived.BigQuiet
import Derived.WalkSmall
import Derived.Outline
namespace Go.Proofs.Ythlbplmghjaeoae
open Go.RowKit

theorem At.drewN {w : World} {a : Option Addr} {xs : List Value} (h : At w a xs) (n : Nat) : At (w.drewN n) a xs := by
  intro k hk
  obtain ⟨b, off, ha, hc⟩ := h k hk
  exact ⟨b, off, ha, by simpa using hc⟩

/-- The numbers k, k + 1, .. . -/
def seqI (k : Int) : Nat → List Int
  | 0 => []
  | n + 1 => k :: seqI (k + 1) n
@[simp] theorem seqI_length (k : Int) : ∀ n, (seqI k n).length = n
  | 0 => rfl
  | n + 1 => by rw [seqI, List.length_cons, seqI_length]
theorem seqI_get (n : Nat) : ∀ (k : Int) (j : Nat) (h : j < (seqI k n).length), (seqI k n)[j] = k + j := by
  induction n with
  | zero => intro k j h; simp at h
  | succ n ih =>
    intro k j h
    cases j with
    | zero => simp [seqI]
    | succ j => simp only [seqI, List.getElem_cons_succ]; rw [ih]; omega

theorem seqI_snoc (j : Nat) : ∀ k : Int, seqI k (j + 1) = seqI k j ++ [k + j] := by
  induction j with
  | zero => intro k; simp [seqI]
  | succ j ih =>
    intro k
    rw [seqI, ih (k + 1)]
    simp only [seqI, List.cons_append, List.cons.injEq, true_and]
    congr 2
    omega

set_option maxRecDepth 100000 in
set_option maxHeartbeats 800000 in
theorem eqIntS_same (a b : Option Addr) (xs : List Int) (n c d : Nat) (w : World) (hn : n = xs.length) (ha : At w a (ints xs)) (hb : At w b (ints xs)) (hl : xs.length ≤ 1099511627776) :
    Calls Try.prog 23 #[.slice a n c, .slice b n d] w fun e w' => e = .returned (.bool true) ∧ Below w.heap.size w w' := by
  subst hn
  have d0 : ((xs.length : Int) != (xs.length : Int)) = false := by simp
  go_enter Try.func23, Try.ntmps23
  go_wp2_with fail
  go_loopw [5] (fun i wr => ∃ k : Nat, k ≤ xs.length ∧ i = .int .i64 k ∧ At wr a (ints xs) ∧ At wr b (ints xs) ∧ Below w.heap.size w wr) (fun i _ => xs.length - (intOf i).toNat)
  case atStart => exact ⟨0, Nat.zero_le _, rfl, ha, hb, Below.refl _ _⟩
  case round =>
    obtain ⟨k, hk, rfl, har, hbr, hw⟩ := hrel
    by_cases hlt : k < xs.length
    · obtain ⟨g1, o1, rfl, hc1⟩ := ints_at har k hlt
      obtain ⟨g2, o2, rfl, hc2⟩ := ints_at hbr k hlt
      have i1 : (k : Int) < (xs.length : Int) := by omega
      have hd : (xs[k] != xs[k]) = false := by simp
      go_wp2_with fail
      go_quiet (fail)
      go_wp2_with fail
      go_roundw
      case rel => exact ⟨k + 1, by omega, by go_num, har.drewN _, hbr.drewN _, below_drewN hw _⟩
      case measure => simp [intOf]; omega
    · go_wp2_with fail
      go_ret
      exact ⟨rfl, hw⟩


theorem Owns.store {w : World} {B e g n cap : Nat} {xs : List Value} (h : Owns w B e (.slice (some ⟨g, 0, none⟩) n cap) xs) (j : Nat) (u : Value) :
    Owns (w.setCell ⟨g, j, none⟩ u) B e (.slice (some ⟨g, 0, none⟩) n cap) (xs.set j u) := by
  obtain ⟨a', cap', hv⟩ := h.shape
  have hn : n = xs.length := by simp at hv; exact hv.2.1
  subst hn
  have := (World.ownsRow.stored h j u).1
  unfold Owns
  rw [List.length_set]
  exact this

end Go.Proofs.Ythlbplmghjaeoae
