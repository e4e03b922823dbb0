/- Walks: two lists marked one behind the other by the laws, and held. -/
import Derived.Test.YthlbplmghjaeoabDoorE2
import Derived.Outline
namespace Go.Proofs.YthlbplmghjaeoabDoor
open Go.RowKit

/-- Two slices of different blocks. -/
def Asunder (u v : Value) : Prop := ∀ i j, u.ownBlock = some i → v.ownBlock = some j → i ≠ j

set_option maxRecDepth 100000 in
set_option maxHeartbeats 800000 in
theorem markIntS_keepK (B : Nat) (a : Option Addr) (xs : List Int) (n c k : Nat) (w : World) (hk : k ≤ 1099511627776) (hn : n = xs.length) (ho : Owns w B 3 (.slice a n c) (ints xs)) (hl : xs.length ≤ 1099511627776) :
    Calls Tryd.prog 16 #[.slice a n c, .int .i64 (k : Int)] w fun e w' => e = .returned (.int .i64 ((k : Int) + n)) ∧ Owns w' B 3 (.slice a n c) (ints (seqI (k : Int) n)) ∧ Below B w w' ∧ ∀ b, (Value.slice a n c).ownBlock ≠ some b → w'.heap[b]? = w.heap[b]? := by
  subst hn
  go_enter Tryd.func16, Tryd.ntmps16
  go_wp2_with fail
  go_loopw [1, 5] (fun q i wr => ∃ j : Nat, j ≤ xs.length ∧ i = .int .i64 j ∧ q = .int .i64 ((k : Int) + j) ∧ Owns wr B 3 (.slice a xs.length c) (ints (seqI (k : Int) j ++ xs.drop j)) ∧ Below B w wr ∧ Hid (∀ b, (Value.slice a xs.length c).ownBlock ≠ some b → wr.heap[b]? = w.heap[b]?)) (fun _ i _ => xs.length - (intOf i).toNat)
  case atStart => exact ⟨0, Nat.zero_le _, rfl, by simp, by simpa [seqI] using ho, Below.refl _ _, fun _ _ => rfl⟩
  case round =>
    obtain ⟨j, hj, rfl, rfl, hown, hb, hkp⟩ := hrel
    by_cases hlt : j < xs.length
    · obtain ⟨g, hag⟩ : ∃ g, a = some ⟨g, 0, none⟩ := by
        obtain ⟨h1, h2⟩ := hown
        rcases h2 with ⟨_, hn0⟩ | ⟨g, cap, cur, hv, _⟩
        · simp at hn0; omega
        · simp at hv; exact ⟨g, hv.1⟩
      subst hag
      have hgB := (hown.lt g rfl).1
      have hlen : j < (ints (seqI (k : Int) j ++ xs.drop j)).length := by simp; omega
      obtain ⟨g', o', he, hc⟩ := hown.at j hlen
      simp only [Option.some.injEq, Addr.mk.injEq, and_true] at he
      obtain ⟨rfl, rfl⟩ := he
      simp only [Nat.zero_add] at hc
      have hfr := World.ownsRow.frozenAt (n := (ints (seqI (k : Int) j ++ xs.drop j)).length) (cap := c) (by
        have e : (ints (seqI (k : Int) j ++ xs.drop j)).length = xs.length := by simp; omega
        have := hown; unfold Owns at this; rw [e] at this ⊢; exact this) j
      have hst := hown.store j (.int .i64 ((k : Int) + j))
      have e2 : (ints (seqI (k : Int) j ++ xs.drop j)).set j (.int .i64 ((k : Int) + j)) = ints (seqI (k : Int) (j + 1) ++ xs.drop (j + 1)) := by
        rw [seqI_snoc, List.drop_eq_getElem_cons hlt, ints, ints, List.map_append, List.map_cons, List.set_append_right _ _ (by simp)]
        simp
      rw [e2] at hst
      generalize hold : (ints (seqI (k : Int) j ++ xs.drop j))[j] = old at hc
      clear hold e2
      go_wp2_with fail
      go_roundw
      case rel => exact ⟨j + 1, by omega, by go_num, by congr 1, hst, hb.trans ((Below.set j _).mono hgB), fun b hb' => (away_set (fun q => hb' (by rw [q]; rfl)) j _).trans (hkp.out b hb')⟩
      case measure => simp [intOf]; omega
    · obtain rfl : j = xs.length := by omega
      go_wp2_with fail
      go_ret
      exact ⟨rfl, by simpa using hown, hb, hkp.out⟩

set_option maxRecDepth 100000 in
set_option maxHeartbeats 800000 in
theorem heldIntS_seqK (a : Option Addr) (n c k : Nat) (w : World) (ha : At w a (ints (seqI (k : Int) n))) (hl : n ≤ 1099511627776) (hk : k ≤ 1099511627776) :
    Calls Tryd.prog 17 #[.slice a n c, .int .i64 (k : Int)] w fun e w' => e = .returned (.int .i64 ((k : Int) + n)) ∧ w = w' := by
  go_enter Tryd.func17, Tryd.ntmps17
  go_wp2_with fail
  go_loop [1, 5] (fun q i => ∃ j : Nat, j ≤ n ∧ i = .int .i64 j ∧ q = .int .i64 ((k : Int) + j)) (fun _ i => n - (intOf i).toNat)
  case atStart => exact ⟨0, Nat.zero_le _, rfl, by simp⟩
  case round =>
    obtain ⟨j, hj, rfl, rfl⟩ := hrel
    by_cases hlt : j < n
    · obtain ⟨g, o, rfl, hc⟩ := ints_at ha j (by simpa using hlt)
      rw [seqI_get] at hc
      have hd : ((k : Int) + (j : Int) != (k : Int) + (j : Int)) = false := by simp
      go_wp2_with fail
      go_round
      case rel => exact ⟨j + 1, by omega, by go_num, by congr 1⟩
      case measure => simp [intOf]; omega
    · obtain rfl : j = n := by omega
      go_wp2_with fail
      go_ret
      exact ⟨by congr 1, rfl⟩
end Go.Proofs.YthlbplmghjaeoabDoor
