/- Walks: the program's signs and sizes. -/
import Derived.Test.YtcnjpejlobompabP1
import Derived.Outline
namespace Go.Proofs.Ytcnjpejlobompab
open Go.RowKit

theorem rowSigns_cons (c : UInt8) (r : List UInt8) : rowSigns (c :: r) = (rowSign c && rowSigns r) := rfl

theorem isSize_any (x y : Nat) (w : World) :
    Calls Try.prog 12 #[.int .i64 x, .int .i64 y] w fun e w' => e = .returned (.bool (sizeOK x y)) ∧ w = w' := by
  by_cases h1 : 1 ≤ x
  · by_cases h2 : x ≤ 8
    · by_cases h3 : 1 ≤ y
      · by_cases h4 : y ≤ 8
        · have hs := Lib.hid (show sizeOK x y = true by simp [sizeOK]; omega)
          go_enter Try.func12, Try.ntmps12
          go_wp2
          go_ret
          exact ⟨by rw [hs.out]; simp; omega, rfl⟩
        · have h4' : 8 < y := by omega
          have hs := Lib.hid (show sizeOK x y = false by simp [sizeOK]; omega)
          clear h4
          go_enter Try.func12, Try.ntmps12
          go_wp2
          go_ret
          exact ⟨by rw [hs.out]; simp; omega, rfl⟩
      · have h3' : y = 0 := by omega
        subst h3'
        have hs := Lib.hid (show sizeOK x 0 = false by simp [sizeOK])
        clear h3
        go_enter Try.func12, Try.ntmps12
        go_wp2
        go_ret
        exact ⟨by rw [hs.out]; rfl, rfl⟩
    · have h2' : 8 < x := by omega
      have hs := Lib.hid (show sizeOK x y = false by simp [sizeOK]; omega)
      clear h2
      go_enter Try.func12, Try.ntmps12
      go_wp2
      go_ret
      exact ⟨by rw [hs.out]; rfl, rfl⟩
  · have h1' : x = 0 := by omega
    subst h1'
    have hs := Lib.hid (show sizeOK 0 y = false by simp [sizeOK])
    clear h1
    go_enter Try.func12, Try.ntmps12
    go_wp2
    go_ret
    exact ⟨by rw [hs.out]; rfl, rfl⟩

end Go.Proofs.Ytcnjpejlobompab
