/- Walks: the program's signs and sizes. -/
import Derived.Test.YtcnjpejlobompabDoorP1
import Derived.Outline
namespace Go.Proofs.YtcnjpejlobompabDoor
open Go.RowKit

theorem rowSigns_cons (c : UInt8) (r : List UInt8) : rowSigns (c :: r) = (rowSign c && rowSigns r) := rfl

theorem isSize_any (x y : Nat) (w : World) :
    Calls Tryd.prog 50 #[.int .i64 x, .int .i64 y] w fun e w' => e = .returned (.bool (sizeOK x y)) ∧ w = w' := by
  by_cases h1 : 1 ≤ x
  · by_cases h2 : x ≤ 8
    · by_cases h3 : 1 ≤ y
      · by_cases h4 : y ≤ 8
        · have hs := Lib.hid (show sizeOK x y = true by simp [sizeOK]; omega)
          go_enter Tryd.func50, Tryd.ntmps50
          go_wp2
          go_ret
          exact ⟨by rw [hs.out]; simp; omega, rfl⟩
        · have h4' : 8 < y := by omega
          have hs := Lib.hid (show sizeOK x y = false by simp [sizeOK]; omega)
          clear h4
          go_enter Tryd.func50, Tryd.ntmps50
          go_wp2
          go_ret
          exact ⟨by rw [hs.out]; simp; omega, rfl⟩
      · have h3' : y = 0 := by omega
        subst h3'
        have hs := Lib.hid (show sizeOK x 0 = false by simp [sizeOK])
        clear h3
        go_enter Tryd.func50, Tryd.ntmps50
        go_wp2
        go_ret
        exact ⟨by rw [hs.out]; rfl, rfl⟩
    · have h2' : 8 < x := by omega
      have hs := Lib.hid (show sizeOK x y = false by simp [sizeOK]; omega)
      clear h2
      go_enter Tryd.func50, Tryd.ntmps50
      go_wp2
      go_ret
      exact ⟨by rw [hs.out]; rfl, rfl⟩
  · have h1' : x = 0 := by omega
    subst h1'
    have hs := Lib.hid (show sizeOK 0 y = false by simp [sizeOK])
    clear h1
    go_enter Tryd.func50, Tryd.ntmps50
    go_wp2
    go_ret
    exact ⟨by rw [hs.out]; rfl, rfl⟩

set_option maxRecDepth 100000 in
set_option maxHeartbeats 800000 in
theorem hasBoardSigns_any (l : List UInt8) (w : World) (hl : l.length ≤ 1048576) :
    Calls Tryd.prog 63 #[.string ⟨l.toArray⟩] w fun e w' => e = .returned (.bool (rowSigns l)) ∧ w = w' := by
  go_enter Tryd.func63, Tryd.ntmps63
  go_wp2_with fail
  go_loop [3] (fun i => ∃ k : Nat, k ≤ l.length ∧ i = .int .i64 k ∧ Hid (rowSigns l = rowSigns (l.drop k))) (fun i => l.length - (intOf i).toNat)
  case atStart => exact ⟨0, Nat.zero_le _, rfl, rfl⟩
  case round =>
    obtain ⟨k, hk, rfl, hno⟩ := hrel
    by_cases hlt : k < l.length
    · have Ht := Lib.hid (List.drop_eq_getElem_cons hlt)
      have q1 := byte_beq l[k] 46 (by omega)
      have q2 := byte_beq l[k] 42 (by omega)
      by_cases c1 : (l[k] == 46) = true
      · have d1 : ((l[k].toNat : Int) != 46) = false := by simp only [bne]; rw [show ((46 : Int)) = ((46 : Nat) : Int) from rfl, q1]; simpa using c1
        have C1 := Lib.hid c1
        clear c1 q1 q2
        go_wp2_with fail
        go_round
        case rel => exact ⟨k + 1, by omega, by go_num, by rw [Hid, hno.out, Ht.out, rowSigns_cons, rowSign, C1.out]; simp⟩
        case measure => simp [intOf]; omega
      · have d1 : ((l[k].toNat : Int) != 46) = true := by simp only [bne]; rw [show ((46 : Int)) = ((46 : Nat) : Int) from rfl, q1]; simpa using c1
        have C1 := Lib.hid c1
        clear c1 q1
        by_cases c2 : (l[k] == 42) = true
        · have d2 : ((l[k].toNat : Int) != 42) = false := by simp only [bne]; rw [show ((42 : Int)) = ((42 : Nat) : Int) from rfl, q2]; simpa using c2
          have C2 := Lib.hid c2
          clear c2 q2
          go_wp2_with fail
          go_round
          case rel => exact ⟨k + 1, by omega, by go_num, by rw [Hid, hno.out, Ht.out, rowSigns_cons, rowSign, C2.out]; simp⟩
          case measure => simp [intOf]; omega
        · have d2 : ((l[k].toNat : Int) != 42) = true := by simp only [bne]; rw [show ((42 : Int)) = ((42 : Nat) : Int) from rfl, q2]; simpa using c2
          have C2 := Lib.hid c2
          clear c2 q2
          go_wp2_with fail
          go_ret
          have hf : rowSign l[k] = false := by have a1 := C1.out; have a2 := C2.out; simp_all [rowSign]
          exact ⟨by rw [hno.out, Ht.out, rowSigns_cons, hf]; rfl, rfl⟩
    · go_wp2_with fail
      go_ret
      exact ⟨by rw [hno.out, List.drop_of_length_le (by omega)]; rfl, rfl⟩
end Go.Proofs.YtcnjpejlobompabDoor
