/- Listed boards by the program: their traits. -/
import Derived.Test.YthlbplmghjaeoaeK0
import Derived.Deep.QuietTactic
import Derived.Deep.RegionHeld3
import Derived.Outline
namespace Go.Proofs.Ythlbplmghjaeoae
open Go.RowKit

/-- A sign (from 0 on) or a number (from 12 on) of a listed board. -/
def LB.at (x : LB) (i : Nat) : UInt8 := x.1.getD i 0
theorem encB_get (x : LB) (i : Nat) (hi : i < 24) : (encB x)[i]? = some (.int .u8 ((x.at i).toNat : Int)) := by
  have h : i < x.1.length := by rw [x.2]; exact hi
  simp [encB, byts, LB.at, List.getD, h]
/-- The twelve signs, the twelve numbers, as the walk meets them. -/
def sgA (x : LB) : Array Value := (byts (x.1.take 12)).toArray
def nmA (x : LB) : Array Value := (byts (x.1.drop 12)).toArray
theorem sgA_get (x : LB) (i : Nat) (hi : i < 12) : (sgA x)[i]? = some (.int .u8 ((x.at i).toNat : Int)) := by
  have h : i < x.1.length := by rw [x.2]; omega
  simp [sgA, byts, LB.at, List.getD, h, hi]
theorem sgA_eq (x : LB) : #[Value.int .u8 ((x.at 0).toNat : Int), .int .u8 ((x.at 1).toNat : Int), .int .u8 ((x.at 2).toNat : Int), .int .u8 ((x.at 3).toNat : Int), .int .u8 ((x.at 4).toNat : Int), .int .u8 ((x.at 5).toNat : Int), .int .u8 ((x.at 6).toNat : Int), .int .u8 ((x.at 7).toNat : Int), .int .u8 ((x.at 8).toNat : Int), .int .u8 ((x.at 9).toNat : Int), .int .u8 ((x.at 10).toNat : Int), .int .u8 ((x.at 11).toNat : Int)] = sgA x := by
  obtain ⟨p, hp⟩ := x
  match p, hp with
  | [a0, a1, a2, a3, a4, a5, a6, a7, a8, a9, a10, a11, b0, b1, b2, b3, b4, b5, b6, b7, b8, b9, b10, b11], _ => rfl
/-- What is in the box of a listed board. -/
theorem boxB_cell (x : LB) (w : World) (t : TypeId) (i : Nat) (hi : i < 24) : (w.alloc (.cells (encB x).toArray t)).cell? ⟨w.heap.size, i, none⟩ = some (.int .u8 ((x.at i).toNat : Int)) := by
  have h := cell_of_block (heap_alloc_new w (.cells (encB x).toArray t)) i
  rw [h]
  exact (List.getElem?_toArray ..).trans (encB_get x i hi)
theorem idx12 (arr : Array Value) (k : Nat) (v : Value) (hk : k < 12) (h : arr[k]? = some v) (w : World) : (Instr.index 43 (.agg arr) (.int .i64 k)).run Try.prog w = .ok v w := by
  have h1 : (0 : Int) ≤ (k : Int) ∧ (k : Int) < 12 := by omega
  simp [Instr.index, asIntOf, run_underlying Try.underlying43, Try.sizeOf5, part, Try.isAgg5, h, h1]
  intro h2; omega
/-- How many mines the first cells have; the sum of their numbers; whether there is a zero, or a mine beside a mine, among them. -/
def LB.mnK (x : LB) : Nat → Nat
  | 0 => 0
  | k + 1 => x.mnK k + if (((x.at k).toNat : Int) == 42) = true then 1 else 0
def LB.smK (x : LB) : Nat → Nat
  | 0 => 0
  | k + 1 => x.smK k + if (((x.at k).toNat : Int) == 46) = true then (x.at (12 + k)).toNat else 0
def LB.hzK (x : LB) : Nat → Bool
  | 0 => false
  | k + 1 => x.hzK k || ((((x.at k).toNat : Int) == 46) && (((x.at (12 + k)).toNat : Int) == 0))
def LB.baK (x : LB) : Nat → Bool
  | 0 => false
  | k + 1 => x.baK k || ((((x.at k).toNat : Int) == 42) && decide (0 < ((x.at (12 + k)).toNat : Int)))
theorem LB.mnK_le (x : LB) : ∀ k, x.mnK k ≤ k
  | 0 => Nat.le_refl _
  | k + 1 => by have := x.mnK_le k; unfold LB.mnK; split <;> omega
theorem byte_le (c : UInt8) : c.toNat ≤ 255 := by have := c.toNat_lt; omega
theorem LB.smK_le (x : LB) : ∀ k, x.smK k ≤ k * 255
  | 0 => Nat.le_refl _
  | k + 1 => by
    have h1 := x.smK_le k
    have h2 := byte_le (x.at (12 + k))
    rw [LB.smK]
    generalize x.smK k = a at *
    generalize (x.at (12 + k)).toNat = b at *
    generalize (((x.at k).toNat : Int) == 46) = c
    cases c with
    | false => exact Nat.le_trans h1 (Nat.mul_le_mul_right _ (Nat.le_succ k))
    | true => rw [Nat.succ_mul]; exact Nat.add_le_add h1 h2
theorem LB.hzK_up (x : LB) {k n : Nat} (h : k ≤ n) : x.hzK k = true → x.hzK n = true := by
  induction h with
  | refl => exact id
  | step _ ih => intro hk; rw [LB.hzK, ih hk]; rfl
theorem LB.baK_up (x : LB) {k n : Nat} (h : k ≤ n) : x.baK k = true → x.baK n = true := by
  induction h with
  | refl => exact id
  | step _ ih => intro hk; rw [LB.baK, ih hk]; rfl
def LB.mns (x : LB) : Nat := x.mnK 12
def LB.sms (x : LB) : Nat := x.smK 12
def LB.hz (x : LB) : Bool := x.hzK 12
def LB.ba (x : LB) : Bool := x.baK 12

set_option maxRecDepth 100000 in
set_option maxHeartbeats 1600000 in
theorem lbMines_any (x : LB) (w : World) :
    Calls Try.prog 31 #[.agg (encB x).toArray] w fun e w' => e = .returned (.int .i64 (x.mns : Nat)) ∧ Below w.heap.size w w' := by
  have h0 := encB_get x 0 (by decide)
  have h1 := encB_get x 1 (by decide)
  have h2 := encB_get x 2 (by decide)
  have h3 := encB_get x 3 (by decide)
  have h4 := encB_get x 4 (by decide)
  have h5 := encB_get x 5 (by decide)
  have h6 := encB_get x 6 (by decide)
  have h7 := encB_get x 7 (by decide)
  have h8 := encB_get x 8 (by decide)
  have h9 := encB_get x 9 (by decide)
  have h10 := encB_get x 10 (by decide)
  have h11 := encB_get x 11 (by decide)
  go_enter Try.func31, Try.ntmps31
  go_wp2_with fail
  rw [sgA_eq]
  have HA : ∀ i : Nat, i < 12 → (sgA x)[i]? = some (.int .u8 ((x.at i).toNat : Int)) := sgA_get x
  generalize sgA x = arr at *
  have hw1 : Below w.heap.size w (w.alloc (.cells (encB x).toArray 45)) := (Below.refl _ _).alloc (Nat.le_refl _) _
  have HB : ∀ i : Nat, i < 24 → (w.alloc (.cells (encB x).toArray 45)).cell? ⟨w.heap.size, i, none⟩ = some (.int .u8 ((x.at i).toNat : Int)) := boxB_cell x w _
  generalize w.alloc (.cells (encB x).toArray 45) = w1 at *
  clear h0 h1 h2 h3 h4 h5 h6 h7 h8 h9 h10 h11
  have HAh := Lib.hid HA
  have HBh := Lib.hid HB
  clear HA HB
  go_loop [3, 8] (fun cnt i => ∃ k : Nat, k ≤ 12 ∧ i = .int .i64 k ∧ cnt = .int .i64 ((x.mnK k : Nat) : Int)) (fun _ i => 12 - (intOf i).toNat)
  case atStart => exact ⟨0, Nat.zero_le _, rfl, rfl⟩
  case round =>
    obtain ⟨k, hk, rfl, rfl⟩ := hrel
    by_cases hlt : k < 12
    · have ha := idx12 arr k _ hlt (HAh.out k hlt)
      have hle := x.mnK_le k
      have HS : Hid (x.mnK (k + 1) = x.mnK k + if (((x.at k).toNat : Int) == 42) = true then 1 else 0) := rfl
      cases d : (((x.at k).toNat : Int) == 42) with
      | true =>
        rw [d] at HS
        go_wp2_with fail
        go_round
        case rel => exact ⟨k + 1, by omega, by go_num, by rw [HS.out, if_pos rfl]; go_num⟩
        case measure => simp [intOf]; omega
      | false =>
        rw [d] at HS
        go_wp2_with fail
        go_round
        case rel => exact ⟨k + 1, by omega, by go_num, by rw [HS.out, if_neg (by decide)]; rfl⟩
        case measure => simp [intOf]; omega
    · obtain rfl : k = 12 := by omega
      go_wp2_with fail
      go_ret
      exact ⟨rfl, hw1⟩
set_option maxRecDepth 100000 in
set_option maxHeartbeats 1600000 in
theorem lbZero_any (x : LB) (w : World) :
    Calls Try.prog 42 #[.agg (encB x).toArray] w fun e w' => e = .returned (.bool x.hz) ∧ Below w.heap.size w w' := by
  have h0 := encB_get x 0 (by decide)
  have h1 := encB_get x 1 (by decide)
  have h2 := encB_get x 2 (by decide)
  have h3 := encB_get x 3 (by decide)
  have h4 := encB_get x 4 (by decide)
  have h5 := encB_get x 5 (by decide)
  have h6 := encB_get x 6 (by decide)
  have h7 := encB_get x 7 (by decide)
  have h8 := encB_get x 8 (by decide)
  have h9 := encB_get x 9 (by decide)
  have h10 := encB_get x 10 (by decide)
  have h11 := encB_get x 11 (by decide)
  go_enter Try.func42, Try.ntmps42
  go_wp2_with fail
  rw [sgA_eq]
  have HA : ∀ i : Nat, i < 12 → (sgA x)[i]? = some (.int .u8 ((x.at i).toNat : Int)) := sgA_get x
  generalize sgA x = arr at *
  have hw1 : Below w.heap.size w (w.alloc (.cells (encB x).toArray 45)) := (Below.refl _ _).alloc (Nat.le_refl _) _
  have HB : ∀ i : Nat, i < 24 → (w.alloc (.cells (encB x).toArray 45)).cell? ⟨w.heap.size, i, none⟩ = some (.int .u8 ((x.at i).toNat : Int)) := boxB_cell x w _
  generalize w.alloc (.cells (encB x).toArray 45) = w1 at *
  clear h0 h1 h2 h3 h4 h5 h6 h7 h8 h9 h10 h11
  have HAh := Lib.hid HA
  have HBh := Lib.hid HB
  clear HA HB
  go_loop [7] (fun i => ∃ k : Nat, k ≤ 12 ∧ i = .int .i64 k ∧ x.hzK k = false) (fun i => 12 - (intOf i).toNat)
  case atStart => exact ⟨0, Nat.zero_le _, rfl, rfl⟩
  case round =>
    obtain ⟨k, hk, rfl, hz⟩ := hrel
    by_cases hlt : k < 12
    · have ha := idx12 arr k _ hlt (HAh.out k hlt)
      have hb := HBh.out (12 + k) (by omega)
      have HS : Hid (x.hzK (k + 1) = (x.hzK k || ((((x.at k).toNat : Int) == 46) && (((x.at (12 + k)).toNat : Int) == 0)))) := rfl
      rw [hz, Bool.false_or] at HS
      have HL : Hid (x.hzK (k + 1) = true → x.hzK 12 = true) := x.hzK_up (by omega)
      cases d : (((x.at k).toNat : Int) == 46) with
      | true =>
        rw [d, Bool.true_and] at HS
        cases d2 : (((x.at (12 + k)).toNat : Int) == 0) with
        | true =>
          rw [d2] at HS
          go_wp2_with fail
          go_ret
          exact ⟨by rw [LB.hz, HL.out HS.out]; rfl, hw1⟩
        | false =>
          rw [d2] at HS
          go_wp2_with fail
          go_round
          case rel => exact ⟨k + 1, by omega, by go_num, HS.out⟩
          case measure => simp [intOf]; omega
      | false =>
        rw [d, Bool.false_and] at HS
        go_wp2_with fail
        go_round
        case rel => exact ⟨k + 1, by omega, by go_num, HS.out⟩
        case measure => simp [intOf]; omega
    · obtain rfl : k = 12 := by omega
      go_wp2_with fail
      go_ret
      exact ⟨by rw [LB.hz, hz]; rfl, hw1⟩
end Go.Proofs.Ythlbplmghjaeoae
