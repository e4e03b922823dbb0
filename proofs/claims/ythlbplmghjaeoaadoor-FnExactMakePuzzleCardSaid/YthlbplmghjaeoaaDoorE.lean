/- Walks: the laws' own helpers on lists of numbers: held against each other, marked, asked for their marks. -/
import Derived.Test.YthlbplmghjaeoaaDoorGS2
import Derived.Deep.QuietTactic
import Derived.BigQuiet
import Derived.WalkSmall
import Derived.Outline
namespace Go.Proofs.YthlbplmghjaeoaaDoor
open Go.RowKit

theorem At.drewN {w : World} {a : Option Addr} {xs : List Value} (h : At w a xs) (n : Nat) : At (w.drewN n) a xs := by
  intro k hk
  obtain ⟨b, off, ha, hc⟩ := h k hk
  exact ⟨b, off, ha, by simpa using hc⟩

/-- The numbers k, k + 1, .. . -/
def seqI (k : Int) : Nat → List Int
  | 0 => []
  | n + 1 => k :: seqI (k + 1) n
@[simp] theorem seqI_length (k : Int) : ∀ n, (seqI k n).length = n
  | 0 => rfl
  | n + 1 => by rw [seqI, List.length_cons, seqI_length]
theorem seqI_get (n : Nat) : ∀ (k : Int) (j : Nat) (h : j < (seqI k n).length), (seqI k n)[j] = k + j := by
  induction n with
  | zero => intro k j h; simp at h
  | succ n ih =>
    intro k j h
    cases j with
    | zero => simp [seqI]
    | succ j => simp only [seqI, List.getElem_cons_succ]; rw [ih]; omega

theorem seqI_snoc (j : Nat) : ∀ k : Int, seqI k (j + 1) = seqI k j ++ [k + j] := by
  induction j with
  | zero => intro k; simp [seqI]
  | succ j ih =>
    intro k
    rw [seqI, ih (k + 1)]
    simp only [seqI, List.cons_append, List.cons.injEq, true_and]
    congr 2
    omega

set_option maxRecDepth 100000 in
set_option maxHeartbeats 800000 in
theorem eqIntS_same (a b : Option Addr) (xs : List Int) (n c d : Nat) (w : World) (hn : n = xs.length) (ha : At w a (ints xs)) (hb : At w b (ints xs)) (hl : xs.length ≤ 1099511627776) :
    Calls Tryd.prog 27 #[.slice a n c, .slice b n d] w fun e w' => e = .returned (.bool true) ∧ Below w.heap.size w w' := by
  subst hn
  have d0 : ((xs.length : Int) != (xs.length : Int)) = false := by simp
  go_enter Tryd.func27, Tryd.ntmps27
  go_wp2_with fail
  go_loopw [5] (fun i wr => ∃ k : Nat, k ≤ xs.length ∧ i = .int .i64 k ∧ At wr a (ints xs) ∧ At wr b (ints xs) ∧ Below w.heap.size w wr) (fun i _ => xs.length - (intOf i).toNat)
  case atStart => exact ⟨0, Nat.zero_le _, rfl, ha, hb, Below.refl _ _⟩
  case round =>
    obtain ⟨k, hk, rfl, har, hbr, hw⟩ := hrel
    by_cases hlt : k < xs.length
    · obtain ⟨g1, o1, rfl, hc1⟩ := ints_at har k hlt
      obtain ⟨g2, o2, rfl, hc2⟩ := ints_at hbr k hlt
      have i1 : (k : Int) < (xs.length : Int) := by omega
      have hd : (xs[k] != xs[k]) = false := by simp
      go_wp2_with fail
      go_quiet (fail)
      go_wp2_with fail
      go_roundw
      case rel => exact ⟨k + 1, by omega, by go_num, har.drewN _, hbr.drewN _, below_drewN hw _⟩
      case measure => simp [intOf]; omega
    · go_wp2_with fail
      go_ret
      exact ⟨rfl, hw⟩

set_option maxRecDepth 100000 in
set_option maxHeartbeats 800000 in
theorem heldIntS_seq (a : Option Addr) (n c : Nat) (k : Int) (w : World) (hk : k = 1) (ha : At w a (ints (seqI 1 n))) (hl : n ≤ 1099511627776) :
    Calls Tryd.prog 29 #[.slice a n c, .int .i64 k] w fun e w' => e = .returned (.int .i64 (1 + n)) ∧ w = w' := by
  subst hk
  go_enter Tryd.func29, Tryd.ntmps29
  go_wp2_with fail
  go_loop [1, 5] (fun q i => ∃ j : Nat, j ≤ n ∧ i = .int .i64 j ∧ q = .int .i64 (1 + j)) (fun _ i => n - (intOf i).toNat)
  case atStart => exact ⟨0, Nat.zero_le _, rfl, rfl⟩
  case round =>
    obtain ⟨j, hj, rfl, rfl⟩ := hrel
    by_cases hlt : j < n
    · obtain ⟨g, o, rfl, hc⟩ := ints_at ha j (by simpa using hlt)
      rw [seqI_get] at hc
      have hd : ((1 : Int) + (j : Int) != 1 + (j : Int)) = false := by simp
      go_wp2_with fail
      go_round
      case rel => exact ⟨j + 1, by omega, by go_num, by congr 1⟩
      case measure => simp [intOf]; omega
    · obtain rfl : j = n := by omega
      go_wp2_with fail
      go_ret
      exact ⟨rfl, rfl⟩

theorem Owns.store {w : World} {B e g n cap : Nat} {xs : List Value} (h : Owns w B e (.slice (some ⟨g, 0, none⟩) n cap) xs) (j : Nat) (u : Value) :
    Owns (w.setCell ⟨g, j, none⟩ u) B e (.slice (some ⟨g, 0, none⟩) n cap) (xs.set j u) := by
  obtain ⟨a', cap', hv⟩ := h.shape
  have hn : n = xs.length := by simp at hv; exact hv.2.1
  subst hn
  have := (World.ownsRow.stored h j u).1
  unfold Owns
  rw [List.length_set]
  exact this

set_option maxRecDepth 100000 in
set_option maxHeartbeats 800000 in
theorem markIntS_own (B : Nat) (a : Option Addr) (xs : List Int) (n c : Nat) (k : Int) (w : World) (hk : k = 1) (hn : n = xs.length) (ho : Owns w B 3 (.slice a n c) (ints xs)) (hl : xs.length ≤ 1099511627776) :
    Calls Tryd.prog 28 #[.slice a n c, .int .i64 k] w fun e w' => e = .returned (.int .i64 (1 + n)) ∧ Owns w' B 3 (.slice a n c) (ints (seqI 1 n)) ∧ Below B w w' := by
  subst hk
  subst hn
  go_enter Tryd.func28, Tryd.ntmps28
  go_wp2_with fail
  go_loopw [1, 5] (fun q i wr => ∃ j : Nat, j ≤ xs.length ∧ i = .int .i64 j ∧ q = .int .i64 (1 + j) ∧ Owns wr B 3 (.slice a xs.length c) (ints (seqI 1 j ++ xs.drop j)) ∧ Below B w wr) (fun _ i _ => xs.length - (intOf i).toNat)
  case atStart => exact ⟨0, Nat.zero_le _, rfl, rfl, by simpa [seqI] using ho, Below.refl _ _⟩
  case round =>
    obtain ⟨j, hj, rfl, rfl, hown, hb⟩ := hrel
    by_cases hlt : j < xs.length
    · obtain ⟨g, hag⟩ : ∃ g, a = some ⟨g, 0, none⟩ := by
        obtain ⟨h1, h2⟩ := hown
        rcases h2 with ⟨_, hn0⟩ | ⟨g, cap, cur, hv, _⟩
        · simp at hn0; omega
        · simp at hv; exact ⟨g, hv.1⟩
      subst hag
      have hgB := (hown.lt g rfl).1
      have hlen : j < (ints (seqI 1 j ++ xs.drop j)).length := by simp; omega
      obtain ⟨g', o', he, hc⟩ := hown.at j hlen
      simp only [Option.some.injEq, Addr.mk.injEq, and_true] at he
      obtain ⟨rfl, rfl⟩ := he
      simp only [Nat.zero_add] at hc
      have hfr := World.ownsRow.frozenAt (n := (ints (seqI 1 j ++ xs.drop j)).length) (cap := c) (by
        have e : (ints (seqI 1 j ++ xs.drop j)).length = xs.length := by simp; omega
        have := hown; unfold Owns at this; rw [e] at this ⊢; exact this) j
      have hst := hown.store j (.int .i64 (1 + j))
      have e2 : (ints (seqI 1 j ++ xs.drop j)).set j (.int .i64 (1 + j)) = ints (seqI 1 (j + 1) ++ xs.drop (j + 1)) := by
        rw [seqI_snoc, List.drop_eq_getElem_cons hlt, ints, ints, List.map_append, List.map_cons, List.set_append_right _ _ (by simp)]
        simp
      rw [e2] at hst
      generalize hold : (ints (seqI 1 j ++ xs.drop j))[j] = old at hc
      clear hold e2
      go_wp2_with fail
      go_roundw
      case rel => exact ⟨j + 1, by omega, by go_num, by congr 1, hst, hb.trans ((Below.set j _).mono hgB)⟩
      case measure => simp [intOf]; omega
    · obtain rfl : j = xs.length := by omega
      go_wp2_with fail
      go_ret
      exact ⟨rfl, by simpa using hown, hb⟩
end Go.Proofs.YthlbplmghjaeoaaDoor
