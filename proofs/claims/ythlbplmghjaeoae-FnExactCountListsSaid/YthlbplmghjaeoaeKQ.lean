/- Two boards' numbers compared. -/
import Derived.Test.YthlbplmghjaeoaeKO
import Derived.DeepKeys
import Derived.Laws.StructEq
import Derived.Outline
namespace Go.Proofs.Ythlbplmghjaeoae
open Go.RowKit

/-- Have two boards the same numbers? -/
def LB.eqN (x y : LB) : Bool := (List.range 12).all fun i => ((x.at (12 + i)).toNat : Int) == ((y.at (12 + i)).toNat : Int)
theorem nmA_get (x : LB) (i : Nat) (hi : i < 12) : (nmA x)[i]? = some (.int .u8 ((x.at (12 + i)).toNat : Int)) := by
  have h : 12 + i < x.1.length := by rw [x.2]; omega
  unfold nmA
  refine (List.getElem?_toArray ..).trans ?_
  simp [byts, LB.at, List.getD, h]
/-- A board's numbers, as cells. -/
def numL (x : LB) : List Value := byts (x.1.drop 12)
theorem numL_len (x : LB) : (numL x).length = 12 := by simp [numL, x.2]
theorem numL_size (x : LB) : (numL x).toArray.size = 12 := by rw [List.size_toArray, numL_len]
theorem numL_one (x : LB) : ∀ v ∈ numL x, v.oneCell' = true := by
  intro v hv
  simp only [numL, byts, List.mem_map] at hv
  obtain ⟨c, _, rfl⟩ := hv
  rfl
theorem range_nums {w : World} {b : Nat} {x : LB} (h : w.rangeAt b 0 (encB x)) : w.rangeAt b 12 (numL x) := fun j v hv => by
  have e : (encB x)[12 + j]? = some v := by
    unfold numL byts at hv
    rw [← hv]
    unfold encB byts
    simp
  have := h (12 + j) v e
  rwa [Nat.zero_add] at this
theorem there12 {w : World} {g : Nat} {cur : Array Value} {t : TypeId} (h : w.heap[g]? = some (.cells cur t (0, 0))) (hc : cur.size = 12) : w.there g 0 12 := fun j hj => by
  rw [Nat.zero_add, cell_of_block h j]
  exact ⟨by simp [hc, hj], frozen_of_block h j⟩
theorem inf65 : (Try.prog.info? 43).map (·.size) = some 12 := by kernel_rfl
theorem eqItems_u8 (w : World) (d : Nat) (xs ys : Array Value) (f g : Nat → Int) : ∀ is : List Nat, (∀ i ∈ is, xs[i]? = some (.int .u8 (f i)) ∧ ys[i]? = some (.int .u8 (g i))) → (Op.eqItems (d + 1) 5 1 xs ys is).run Try.prog w = .ok (is.all fun i => f i == g i) w
  | [], _ => by simp [Op.eqItems]
  | i :: r, h => by
    obtain ⟨h1, h2⟩ := h i (List.mem_cons_self ..)
    have ih := eqItems_u8 w d xs ys f g r fun j hj => h j (List.mem_cons_of_mem _ hj)
    have p1 : (part 5 xs (i * 1)).run Try.prog w = .ok (.int .u8 (f i)) w := by simp [part, Try.isAgg5, h1]
    have p2 : (part 5 ys (i * 1)).run Try.prog w = .ok (.int .u8 (g i)) w := by simp [part, Try.isAgg5, h2]
    have p3 := run_equalIn_int w d 5 .u8 .u8 (f i) (g i) Try.underlying5
    simp only [Op.eqItems, Sem.run_bind, p1, p2, p3, Result.andThen_ok, List.all_cons]
    cases f i == g i
    · simp
    · simpa using ih
theorem eqNums (x y : LB) (w : World) : (Op.equalIn 10000 43 (.agg (nmA x)) (.agg (nmA y))).run Try.prog w = .ok (x.eqN y) w := by
  have h := eqItems_u8 w 9998 (nmA x) (nmA y) (fun i => ((x.at (12 + i)).toNat : Int)) (fun i => ((y.at (12 + i)).toNat : Int)) (List.range 12) fun i hi => ⟨nmA_get x i (List.mem_range.1 hi), nmA_get y i (List.mem_range.1 hi)⟩
  obtain ⟨i, hi⟩ := info_of_underlying Try.underlying5
  have hc : Try.prog.cellsOf 5 = 1 := by kernel_rfl
  have h2 := run_equalIn_array (P := Try.prog) w 9999 (nmA x) (nmA y) Try.underlying43 hi
  rw [hc] at h2
  exact h2.trans h
theorem eqNumL (x y : LB) (w : World) : (Op.equalIn 10000 43 (.agg (numL x).toArray) (.agg (numL y).toArray)).run Try.prog w = .ok (x.eqN y) w := eqNums x y w
end Go.Proofs.Ythlbplmghjaeoae
