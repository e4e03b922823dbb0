/- Notes: FirstSingle by the program. -/
import Derived.Test.YthlbplmghjaeoabDoorGCR
import Derived.Outline
namespace Go.Proofs.YthlbplmghjaeoabDoor
open Go.RowKit

theorem singleRule_own (w : World) :
    Calls Tryd.prog 59 #[] w fun e w' => ∃ g, e = .returned (.func (.func 96) #[] #[.pointer (some ⟨g, 0, none⟩)]) ∧ w'.heap[g]? = some (.cells #[.int .i64 0, .int .i64 0, .int .u64 ((maskM [] : Nat) : Int)] 61 (0, 0)) ∧ Below w.heap.size w w' := by
  refine (singleRule_any w).mono ?_
  rintro e w' ⟨rfl, rfl⟩
  exact ⟨_, rfl, heap_alloc_new w _, (Below.refl _ _).alloc (Nat.le_refl _) _⟩
theorem Below.setCell2 {B g : Nat} {w w' : World} (h : Below B w w') (hg : B ≤ g) (v0 v1 : Value) : Below B w ((w'.setCell ⟨g, 0, none⟩ v0).setCell ⟨g, 1, none⟩ v1) :=
  h.trans (((Below.set 0 _).trans (Below.set 1 _)).mono hg)

end Go.Proofs.YthlbplmghjaeoabDoor
