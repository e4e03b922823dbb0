/- Listed boards by the program: their traits. -/
import Derived.Test.YthlbplmghjaeoaeDoorK0
import Derived.Deep.QuietTactic
import Derived.Deep.RegionHeld3
import Derived.Outline
namespace Go.Proofs.YthlbplmghjaeoaeDoor
open Go.RowKit

/-- A sign (from 0 on) or a number (from 12 on) of a listed board. -/
def LB.at (x : LB) (i : Nat) : UInt8 := x.1.getD i 0
theorem encB_get (x : LB) (i : Nat) (hi : i < 24) : (encB x)[i]? = some (.int .u8 ((x.at i).toNat : Int)) := by
  have h : i < x.1.length := by rw [x.2]; exact hi
  simp [encB, byts, LB.at, List.getD, h]
/-- The twelve signs, the twelve numbers, as the walk meets them. -/
def sgA (x : LB) : Array Value := (byts (x.1.take 12)).toArray
def nmA (x : LB) : Array Value := (byts (x.1.drop 12)).toArray
theorem sgA_get (x : LB) (i : Nat) (hi : i < 12) : (sgA x)[i]? = some (.int .u8 ((x.at i).toNat : Int)) := by
  have h : i < x.1.length := by rw [x.2]; omega
  simp [sgA, byts, LB.at, List.getD, h, hi]
theorem sgA_eq (x : LB) : #[Value.int .u8 ((x.at 0).toNat : Int), .int .u8 ((x.at 1).toNat : Int), .int .u8 ((x.at 2).toNat : Int), .int .u8 ((x.at 3).toNat : Int), .int .u8 ((x.at 4).toNat : Int), .int .u8 ((x.at 5).toNat : Int), .int .u8 ((x.at 6).toNat : Int), .int .u8 ((x.at 7).toNat : Int), .int .u8 ((x.at 8).toNat : Int), .int .u8 ((x.at 9).toNat : Int), .int .u8 ((x.at 10).toNat : Int), .int .u8 ((x.at 11).toNat : Int)] = sgA x := by
  obtain ⟨p, hp⟩ := x
  match p, hp with
  | [a0, a1, a2, a3, a4, a5, a6, a7, a8, a9, a10, a11, b0, b1, b2, b3, b4, b5, b6, b7, b8, b9, b10, b11], _ => rfl
/-- What is in the box of a listed board. -/
theorem boxB_cell (x : LB) (w : World) (t : TypeId) (i : Nat) (hi : i < 24) : (w.alloc (.cells (encB x).toArray t)).cell? ⟨w.heap.size, i, none⟩ = some (.int .u8 ((x.at i).toNat : Int)) := by
  have h := cell_of_block (heap_alloc_new w (.cells (encB x).toArray t)) i
  rw [h]
  exact (List.getElem?_toArray ..).trans (encB_get x i hi)
/-- How many mines the first cells have; the sum of their numbers; whether there is a zero, or a mine beside a mine, among them. -/
def LB.mnK (x : LB) : Nat → Nat
  | 0 => 0
  | k + 1 => x.mnK k + if (((x.at k).toNat : Int) == 42) = true then 1 else 0
def LB.smK (x : LB) : Nat → Nat
  | 0 => 0
  | k + 1 => x.smK k + if (((x.at k).toNat : Int) == 46) = true then (x.at (12 + k)).toNat else 0
def LB.hzK (x : LB) : Nat → Bool
  | 0 => false
  | k + 1 => x.hzK k || ((((x.at k).toNat : Int) == 46) && (((x.at (12 + k)).toNat : Int) == 0))
def LB.baK (x : LB) : Nat → Bool
  | 0 => false
  | k + 1 => x.baK k || ((((x.at k).toNat : Int) == 42) && decide (0 < ((x.at (12 + k)).toNat : Int)))
theorem LB.mnK_le (x : LB) : ∀ k, x.mnK k ≤ k
  | 0 => Nat.le_refl _
  | k + 1 => by have := x.mnK_le k; unfold LB.mnK; split <;> omega
theorem byte_le (c : UInt8) : c.toNat ≤ 255 := by have := c.toNat_lt; omega
theorem LB.smK_le (x : LB) : ∀ k, x.smK k ≤ k * 255
  | 0 => Nat.le_refl _
  | k + 1 => by
    have h1 := x.smK_le k
    have h2 := byte_le (x.at (12 + k))
    rw [LB.smK]
    generalize x.smK k = a at *
    generalize (x.at (12 + k)).toNat = b at *
    generalize (((x.at k).toNat : Int) == 46) = c
    cases c with
    | false => exact Nat.le_trans h1 (Nat.mul_le_mul_right _ (Nat.le_succ k))
    | true => rw [Nat.succ_mul]; exact Nat.add_le_add h1 h2
theorem LB.hzK_up (x : LB) {k n : Nat} (h : k ≤ n) : x.hzK k = true → x.hzK n = true := by
  induction h with
  | refl => exact id
  | step _ ih => intro hk; rw [LB.hzK, ih hk]; rfl
theorem LB.baK_up (x : LB) {k n : Nat} (h : k ≤ n) : x.baK k = true → x.baK n = true := by
  induction h with
  | refl => exact id
  | step _ ih => intro hk; rw [LB.baK, ih hk]; rfl
def LB.mns (x : LB) : Nat := x.mnK 12
def LB.sms (x : LB) : Nat := x.smK 12
def LB.hz (x : LB) : Bool := x.hzK 12
def LB.ba (x : LB) : Bool := x.baK 12

end Go.Proofs.YthlbplmghjaeoaeDoor
