/- Walks: the program's signs and sizes. -/
import Derived.Test.YthlbplmghjaeoaaDoorP1
import Derived.Outline
namespace Go.Proofs.YthlbplmghjaeoaaDoor
open Go.RowKit

theorem rowSigns_cons (c : UInt8) (r : List UInt8) : rowSigns (c :: r) = (rowSign c && rowSigns r) := rfl

theorem isSize_any (x y : Nat) (w : World) :
    Calls Tryd.prog 73 #[.int .i64 x, .int .i64 y] w fun e w' => e = .returned (.bool (sizeOK x y)) ∧ w = w' := by
  by_cases h1 : 1 ≤ x
  · by_cases h2 : x ≤ 8
    · by_cases h3 : 1 ≤ y
      · by_cases h4 : y ≤ 8
        · have hs := Lib.hid (show sizeOK x y = true by simp [sizeOK]; omega)
          go_enter Tryd.func73, Tryd.ntmps73
          go_wp2
          go_ret
          exact ⟨by rw [hs.out]; simp; omega, rfl⟩
        · have h4' : 8 < y := by omega
          have hs := Lib.hid (show sizeOK x y = false by simp [sizeOK]; omega)
          clear h4
          go_enter Tryd.func73, Tryd.ntmps73
          go_wp2
          go_ret
          exact ⟨by rw [hs.out]; simp; omega, rfl⟩
      · have h3' : y = 0 := by omega
        subst h3'
        have hs := Lib.hid (show sizeOK x 0 = false by simp [sizeOK])
        clear h3
        go_enter Tryd.func73, Tryd.ntmps73
        go_wp2
        go_ret
        exact ⟨by rw [hs.out]; rfl, rfl⟩
    · have h2' : 8 < x := by omega
      have hs := Lib.hid (show sizeOK x y = false by simp [sizeOK]; omega)
      clear h2
      go_enter Tryd.func73, Tryd.ntmps73
      go_wp2
      go_ret
      exact ⟨by rw [hs.out]; rfl, rfl⟩
  · have h1' : x = 0 := by omega
    subst h1'
    have hs := Lib.hid (show sizeOK 0 y = false by simp [sizeOK])
    clear h1
    go_enter Tryd.func73, Tryd.ntmps73
    go_wp2
    go_ret
    exact ⟨by rw [hs.out]; rfl, rfl⟩

/-- The digit of a number. -/
def digB (n : Nat) : UInt8 := UInt8.ofNat (48 + n)
theorem digB_nat (n : Nat) (h : n ≤ 9) : (digB n).toNat = 48 + n := by
  unfold digB
  rw [UInt8.toNat_ofNat']
  omega
theorem digB_ne (n : Nat) (h : n ≤ 9) : digB n ≠ 42 := by
  intro q
  have := congrArg UInt8.toNat q
  rw [digB_nat n h] at this
  have e : (42 : UInt8).toNat = 42 := rfl
  omega

set_option maxRecDepth 100000 in
theorem digit_any (n : Nat) (w : World) (hn : n ≤ 9) :
    Calls Tryd.prog 143 #[.int .i64 n] w fun e w' => e = .returned (.int .u8 ((digB n).toNat : Int)) ∧ w = w' := by
  have hd := Lib.hid (digB_nat n hn)
  go_enter Tryd.func143, Tryd.ntmps143
  go_wp2_with fail
  go_ret
  exact ⟨by rw [hd.out]; simp, rfl⟩

/-- What is known of a function that tells a sign: it only reads. -/
def Signs (F : Nat) (p : UInt8 → Bool) : Prop :=
  (∀ (args : Array Value) (w' : World), (callFunc F args).run Tryd.prog w' = .ok (.enter F args) w')
    ∧ ∀ (c : UInt8) (w : World), Calls Tryd.prog F #[.int .u8 (c.toNat : Int)] w fun e w' => e = .returned (.bool (p c)) ∧ w = w'

set_option maxRecDepth 100000 in
theorem isBoardSign_any (c : UInt8) (w : World) :
    Calls Tryd.prog 65 #[.int .u8 (c.toNat : Int)] w fun e w' => e = .returned (.bool (rowSign c)) ∧ w = w' := by
  have q1 := byte_beq c 46 (by omega)
  have q2 := byte_beq c 42 (by omega)
  by_cases c1 : (c == 46) = true
  · have d1 : ((c.toNat : Int) == 46) = true := by rw [show ((46 : Int)) = ((46 : Nat) : Int) from rfl, q1]; simpa using c1
    have HH := Lib.hid (show rowSign c = true by rw [rowSign, c1]; rfl)
    clear c1 q1 q2
    go_enter Tryd.func65, Tryd.ntmps65
    go_wp2_with fail
    go_ret
    exact ⟨by rw [HH.out]; rfl, rfl⟩
  · have d1 : ((c.toNat : Int) == 46) = false := by rw [show ((46 : Int)) = ((46 : Nat) : Int) from rfl, q1]; simpa using c1
    have HH := Lib.hid (show rowSign c = ((c.toNat : Int) == 42) by rw [rowSign, show ((42 : Int)) = ((42 : Nat) : Int) from rfl, q2]; simp at c1; simp [c1])
    clear c1 q1 q2
    go_enter Tryd.func65, Tryd.ntmps65
    go_wp2_with fail
    go_ret
    exact ⟨by rw [HH.out]; rfl, rfl⟩
theorem signs_board : Signs 65 rowSign := ⟨fun args w' => by go_simp, isBoardSign_any⟩

/-- Is there a cell of that number? -/
def inC (n : Nat) (c : Int) : Bool := decide (0 ≤ c) && decide (c < n)
end Go.Proofs.YthlbplmghjaeoaaDoor
