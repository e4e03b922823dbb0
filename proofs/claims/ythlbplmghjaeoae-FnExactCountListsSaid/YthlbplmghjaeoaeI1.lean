/- Walks: the program's signs and sizes. -/
import Derived.Test.YthlbplmghjaeoaeP1
import Derived.Outline
namespace Go.Proofs.Ythlbplmghjaeoae
open Go.RowKit

theorem rowSigns_cons (c : UInt8) (r : List UInt8) : rowSigns (c :: r) = (rowSign c && rowSigns r) := rfl

theorem isSize_any (x y : Nat) (w : World) :
    Calls Try.prog 58 #[.int .i64 x, .int .i64 y] w fun e w' => e = .returned (.bool (sizeOK x y)) ∧ w = w' := by
  by_cases h1 : 1 ≤ x
  · by_cases h2 : x ≤ 8
    · by_cases h3 : 1 ≤ y
      · by_cases h4 : y ≤ 8
        · have hs := Lib.hid (show sizeOK x y = true by simp [sizeOK]; omega)
          go_enter Try.func58, Try.ntmps58
          go_wp2
          go_ret
          exact ⟨by rw [hs.out]; simp; omega, rfl⟩
        · have h4' : 8 < y := by omega
          have hs := Lib.hid (show sizeOK x y = false by simp [sizeOK]; omega)
          clear h4
          go_enter Try.func58, Try.ntmps58
          go_wp2
          go_ret
          exact ⟨by rw [hs.out]; simp; omega, rfl⟩
      · have h3' : y = 0 := by omega
        subst h3'
        have hs := Lib.hid (show sizeOK x 0 = false by simp [sizeOK])
        clear h3
        go_enter Try.func58, Try.ntmps58
        go_wp2
        go_ret
        exact ⟨by rw [hs.out]; rfl, rfl⟩
    · have h2' : 8 < x := by omega
      have hs := Lib.hid (show sizeOK x y = false by simp [sizeOK]; omega)
      clear h2
      go_enter Try.func58, Try.ntmps58
      go_wp2
      go_ret
      exact ⟨by rw [hs.out]; rfl, rfl⟩
  · have h1' : x = 0 := by omega
    subst h1'
    have hs := Lib.hid (show sizeOK 0 y = false by simp [sizeOK])
    clear h1
    go_enter Try.func58, Try.ntmps58
    go_wp2
    go_ret
    exact ⟨by rw [hs.out]; rfl, rfl⟩

/-- The digit of a number. -/
def digB (n : Nat) : UInt8 := UInt8.ofNat (48 + n)
theorem digB_nat (n : Nat) (h : n ≤ 9) : (digB n).toNat = 48 + n := by
  unfold digB
  rw [UInt8.toNat_ofNat']
  omega
theorem digB_ne (n : Nat) (h : n ≤ 9) : digB n ≠ 42 := by
  intro q
  have := congrArg UInt8.toNat q
  rw [digB_nat n h] at this
  have e : (42 : UInt8).toNat = 42 := rfl
  omega

set_option maxRecDepth 100000 in
theorem digit_any (n : Nat) (w : World) (hn : n ≤ 9) :
    Calls Try.prog 86 #[.int .i64 n] w fun e w' => e = .returned (.int .u8 ((digB n).toNat : Int)) ∧ w = w' := by
  have hd := Lib.hid (digB_nat n hn)
  go_enter Try.func86, Try.ntmps86
  go_wp2_with fail
  go_ret
  exact ⟨by rw [hd.out]; simp, rfl⟩

/-- What is known of a function that tells a sign: it only reads. -/
def Signs (F : Nat) (p : UInt8 → Bool) : Prop :=
  (∀ (args : Array Value) (w' : World), (callFunc F args).run Try.prog w' = .ok (.enter F args) w')
    ∧ ∀ (c : UInt8) (w : World), Calls Try.prog F #[.int .u8 (c.toNat : Int)] w fun e w' => e = .returned (.bool (p c)) ∧ w = w'


/-- Is there a cell of that number? -/
def inC (n : Nat) (c : Int) : Bool := decide (0 ≤ c) && decide (c < n)
set_option maxRecDepth 100000 in
theorem hasCell_any {J : Bool} (W H : Nat) (a : Option Addr) (n cap : Nat) (c : Int) (w : World) :
    Calls Try.prog 84 #[.agg #[.int .i64 W, .int .i64 H, .slice a n cap, .bool J], .int .i64 c] w fun e w' => e = .returned (.bool (inC n c)) ∧ Below w.heap.size w w' := by
  have hb0 : Below w.heap.size w (w.alloc (.cells #[.int .i64 W, .int .i64 H, .slice a n cap, .bool J] 66)) := (Below.refl _ _).alloc (Nat.le_refl _) _
  by_cases h0 : 0 ≤ c
  · by_cases h1 : c < n
    · have HB := Lib.hid (show inC n c = true by simp [inC, h0, h1])
      go_enter Try.func84, Try.ntmps84
      go_wp2_with fail
      go_ret
      exact ⟨by rw [HB.out]; rfl, hb0⟩
    · have HB := Lib.hid (show inC n c = false by simp [inC, h1])
      go_enter Try.func84, Try.ntmps84
      go_wp2_with fail
      go_ret
      exact ⟨by rw [HB.out]; rfl, hb0⟩
  · have HB := Lib.hid (show inC n c = false by simp [inC, h0])
    go_enter Try.func84, Try.ntmps84
    go_wp2_with fail
    go_ret
    exact ⟨by rw [HB.out]; rfl, hb0⟩
end Go.Proofs.Ythlbplmghjaeoae
