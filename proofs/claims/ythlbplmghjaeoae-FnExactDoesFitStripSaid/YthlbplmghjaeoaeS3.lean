/- Walks: the model's boards, cells and mines. -/
import Derived.Test.YthlbplmghjaeoaeS2
import Derived.Outline
namespace Go.Proofs.Ythlbplmghjaeoae
open Go.RowKit

def okSign (c : UInt8) : Bool := c == 46 || c == 42 || c == 47
theorem okSign_no {c : UInt8} (h1 : ¬ (c == 46) = true) (h2 : ¬ (c == 42) = true) (h3 : ¬ (c == 47) = true) : ¬ okSign c = true := by simp_all [okSign]
def okSigns : List UInt8 → Bool
  | [] => true
  | c :: r => if okSign c = true then okSigns r else false
def boGoodM (l : List UInt8) : Bool := if l.length ≤ 72 then (if (boSizeM l).1 = 0 then false else okSigns l) else false

theorem byte_beq (x : UInt8) (n : Nat) (h : n < 256) : ((x.toNat : Int) == (n : Int)) = (x == UInt8.ofNat n) := by
  have := u8_eq_int x (UInt8.ofNat n)
  have e : (UInt8.ofNat n).toNat = n := by simp; omega
  rw [e] at this
  rw [this]
  by_cases hx : x = UInt8.ofNat n <;> simp [hx]

theorem boGood_len {l : List UInt8} (h : boGoodM l = true) : l.length ≤ 72 := by
  unfold boGoodM at h
  by_cases h72 : l.length ≤ 72
  · exact h72
  · simp [h72] at h

/-- The cells of a text: all signs but the breaks. -/
def cellsM (l : List UInt8) : List UInt8 := l.filter (· != 47)
theorem cellsM_snoc (l : List UInt8) (k : Nat) (hk : k < l.length) : cellsM (l.take (k + 1)) = cellsM (l.take k) ++ (if (l[k] == 47) = true then [] else [l[k]]) := by
  rw [List.take_succ_eq_append_getElem hk, cellsM, List.filter_append]
  by_cases h : l[k] = 47 <;> simp [cellsM, h]
theorem cellsM_le (l : List UInt8) : (cellsM l).length ≤ l.length := List.length_filter_le _ _

end Go.Proofs.Ythlbplmghjaeoae
