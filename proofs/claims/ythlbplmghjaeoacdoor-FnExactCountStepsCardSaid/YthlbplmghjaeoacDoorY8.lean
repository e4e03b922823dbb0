/- Opening: the cells that a click opens, by the model. -/
import Derived.Test.YthlbplmghjaeoacDoorGY1
import Derived.Test.YthlbplmghjaeoacDoorT7
import Derived.Outline
namespace Go.Proofs.YthlbplmghjaeoacDoor
open Go.RowKit

theorem hasI_nat (xs : List Nat) (n : Nat) : hasI (xs.map Int.ofNat) (n : Int) = decide (n ∈ xs) := by
  rw [Bool.eq_iff_iff]
  simp only [hasI, List.any_eq_true, List.mem_map, beq_iff_eq, decide_eq_true_eq]
  constructor
  · rintro ⟨x, ⟨y, hy, rfl⟩, h⟩
    have : y = n := Int.ofNat.inj h
    rwa [← this]
  · intro h
    exact ⟨(n : Int), ⟨n, h, rfl⟩, rfl⟩
/-- l1Has of the model over numbers. -/
theorem l1HasN_any (xs : List Nat) (n : Nat) (a : Option Addr) (cap : Nat) (w : World) (hat : At w a (nats xs)) (hl : xs.length ≤ 1048576) :
    Calls Tryd.prog 47 #[.slice a xs.length cap, .int .i64 n] w fun e w' => e = .returned (.bool (decide (n ∈ xs))) ∧ w = w' := by
  have h := l1Has_any (xs.map Int.ofNat) (n : Int) a cap w hat (by simpa using hl)
  rw [hasI_nat, List.length_map] at h
  exact h

theorem Owns.empty (w : World) (B e : Nat) (hB : B ≤ w.heap.size) : Owns (w.alloc (.cells #[] e)) B e (.slice (some ⟨w.heap.size, 0, none⟩) 0 0) [] := by
  refine ⟨by simp, .inr ⟨w.heap.size, 0, #[], by simp, hB, heap_alloc_new w _, by simp, by simp [maxLen], by simp, by simp⟩⟩
theorem At.take {w : World} {a : Option Addr} {xs : List Value} (h : At w a xs) (k : Nat) : At w a (xs.take k) := by
  intro j hj
  have hj' : j < xs.length := by simp at hj; omega
  obtain ⟨b, off, ha, hc⟩ := h j hj'
  exact ⟨b, off, ha, by rw [hc]; simp⟩
theorem At.drop {w : World} {g off : Nat} {xs : List Value} (h : At w (some ⟨g, off, none⟩) xs) (k : Nat) : At w (some ⟨g, off + k, none⟩) (xs.drop k) := by
  intro j hj
  have hj' : k + j < xs.length := by simp at hj; omega
  obtain ⟨b, off', ha, hc⟩ := h (k + j) hj'
  simp only [Option.some.injEq, Addr.mk.injEq, and_true] at ha
  obtain ⟨rfl, rfl⟩ := ha
  exact ⟨g, off + k, rfl, by rw [Nat.add_assoc, hc]; simp⟩
theorem At.nil (w : World) (a : Option Addr) : At w a [] := by intro k hk; simp at hk
theorem nats_take (xs : List Nat) (k : Nat) : nats (xs.take k) = (nats xs).take k := by simp [nats, ints, List.map_take]
theorem nats_drop (xs : List Nat) (k : Nat) : nats (xs.drop k) = (nats xs).drop k := by simp [nats, ints, List.map_drop]

end Go.Proofs.YthlbplmghjaeoacDoor
