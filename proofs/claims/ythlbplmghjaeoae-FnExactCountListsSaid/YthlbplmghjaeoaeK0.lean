/- Listed boards: their signs and numbers, as the program keeps them. -/
import Derived.Test.YthlbplmghjaeoaeE
import Derived.Outline
namespace Go.Proofs.Ythlbplmghjaeoae
open Go.RowKit

/-- A listed board: its twelve signs, then its twelve numbers. -/
def LB : Type := {p : List UInt8 // p.length = 24}
instance : Inhabited LB := ⟨⟨List.replicate 24 0, by simp⟩⟩
def encB (x : LB) : List Value := byts x.1
theorem encB_len (x : LB) : (encB x).length = 24 := by simp [encB, x.2]
theorem encB_one (x : LB) : ∀ v ∈ encB x, v.oneCell' = true := by
  intro v hv
  simp only [encB, byts, List.mem_map] at hv
  obtain ⟨c, _, rfl⟩ := hv
  rfl

/-- A number goes up by one. -/
def bump (p : List UInt8) (o : Nat) : List UInt8 := p.set (12 + o) (p.getD (12 + o) 0 + 1)
@[simp] theorem bump_length (p : List UInt8) (o : Nat) : (bump p o).length = p.length := by simp [bump]
@[simp] theorem bumps_length : ∀ (near : List Nat) (p : List UInt8), (near.foldl bump p).length = p.length
  | [], _ => rfl
  | o :: r, p => by rw [List.foldl_cons, bumps_length r, bump_length]
theorem bump_getD (p : List UInt8) (o k : Nat) (hp : p.length = 24) (hk : k < 24) : (bump p o).getD k 0 = p.getD k 0 + UInt8.ofNat (if 12 + o = k then 1 else 0) := by
  unfold bump
  by_cases h : 12 + o = k
  · subst h
    simp [List.getD, hp, hk]
  · rw [if_neg h]
    simp [List.getD, List.getElem?_set, h]
theorem bumps_getD (k : Nat) (hk : k < 24) : ∀ (near : List Nat) (p : List UInt8), p.length = 24 → (near.foldl bump p).getD k 0 = p.getD k 0 + UInt8.ofNat (near.countP fun o => decide (12 + o = k))
  | [], p, _ => by simp
  | o :: r, p, hp => by
    rw [List.foldl_cons, bumps_getD k hk r _ (by rw [bump_length, hp]), bump_getD p o k hp hk, List.countP_cons, UInt8.add_assoc, ← UInt8.ofNat_add]
    congr 2
    by_cases h : 12 + o = k <;> simp [h, Nat.add_comm]
/-- What the program calls 'with'. -/
def withP (p : List UInt8) (c : Nat) (s : UInt8) (near : List Nat) : List UInt8 := if s = 42 then near.foldl bump (p.set c s) else p.set c s
theorem withP_length (p : List UInt8) (c : Nat) (s : UInt8) (near : List Nat) : (withP p c s near).length = p.length := by
  unfold withP; split <;> simp
def LB.wth (x : LB) (c : Nat) (s : UInt8) (near : List Nat) : LB := ⟨withP x.1 c s near, by rw [withP_length, x.2]⟩


end Go.Proofs.Ythlbplmghjaeoae
