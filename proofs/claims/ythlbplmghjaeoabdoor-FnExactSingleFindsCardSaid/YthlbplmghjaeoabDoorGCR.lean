/- CR, CS, laid as one text. -/
import Derived.Test.YthlbplmghjaeoabDoorGCP
import Derived.Outline

/- Notes: the first pair that finds something, by the model; FirstPair both ways. -/
namespace Go.Proofs.YthlbplmghjaeoabDoor
open Go.RowKit

theorem pair_self (cells : List UInt8) (W k : Nat) : fnd (pairAt cells W (nrS cells W k 63) (restM cells W k) k) = false := by
  have e : ((nrS cells W k 63).filter fun x => !decide (x ∈ nrS cells W k 63)) = [] := by
    rw [List.filter_eq_nil_iff]
    intro x hx
    simp [hx]
  rw [pairAt, pairL, e, Int.sub_self, if_pos rfl, if_pos rfl]
  rfl
theorem fstP_fnd (cells : List UInt8) (W : Nat) (ks : List Nat) : ∀ r : List Nat, fnd (fstP cells W ks r).2.2 = false → (fstP cells W ks r).1 = 0 ∧ (fstP cells W ks r).2.1 = 0
  | [], _ => ⟨rfl, rfl⟩
  | a :: r, h => by
    unfold fstP at h ⊢
    by_cases hf : fnd (fstM cells W (nrS cells W a 63) (restM cells W a) ks).2 = true
    · rw [if_pos hf] at h
      simp only at h
      rw [hf] at h; cases h
    · rw [if_neg hf] at h ⊢
      exact fstP_fnd cells W ks r h


/-- What FirstPair and FirstSingle hand back. -/
def fpM (l : List UInt8) : Nat × Nat × (List Nat × List Nat) := fstP (snC l) (snW l) (opens (snC l)) (opens (snC l))
def fsM (l : List UInt8) : Nat × (List Nat × List Nat) := fstM (snC l) (snW l) [] 0 (opens (snC l))


end Go.Proofs.YthlbplmghjaeoabDoor

/- Notes: FirstPair by the program. -/
namespace Go.Proofs.YthlbplmghjaeoabDoor
open Go.RowKit

theorem fp_mask (l : List UInt8) : fnd (fpM l).2.2 = !(maskM (fpM l).2.2.1 == 0 && maskM (fpM l).2.2.2 == 0) := by
  obtain ⟨h1, h2⟩ := fstP_cel (snC l) (snW l) (opens (snC l)) (opens (snC l))
  exact fnd_mask (sn_le l) h1 h2
theorem fs_mask (l : List UInt8) : fnd (fsM l).2 = !(maskM (fsM l).2.1 == 0 && maskM (fsM l).2.2 == 0) := by
  obtain ⟨h1, h2⟩ := fst_cel (snC l) (snW l) [] 0 (opens (snC l))
  exact fnd_mask (sn_le l) h1 h2

end Go.Proofs.YthlbplmghjaeoabDoor
