/- Counts by the model: stripes, the greatest sum. -/
import Derived.Test.YthlbplmghjaeoaeGJC
import Derived.Outline
namespace Go.Proofs.Ythlbplmghjaeoae
open Go.RowKit

/-- Rows of mines and free rows in turn. -/
def strS (W i from' : Nat) : UInt8 := if (i / W) % 2 = from' then 42 else 46
def strM (W H f : Nat) : List UInt8 := (List.range (W * H)).map fun i => strS W i f
theorem strM_length (W H f : Nat) : (strM W H f).length = W * H := by simp [strM]
theorem strM_snoc (W H f k : Nat) (h : k < W * H) : (strM W H f).take (k + 1) = (strM W H f).take k ++ [strS W k f] := by
  rw [List.take_succ_eq_append_getElem (by rw [strM_length]; exact h)]
  simp [strM]
theorem strM_brd (W H f : Nat) : Brd2 (strM W H f) := by
  intro c hc
  obtain ⟨i, _, rfl⟩ := List.mem_map.1 hc
  unfold strS
  split
  · exact .inr rfl
  · exact .inl rfl
theorem strS_row (W y x f : Nat) (hx : x < W) : strS W (y * W + x) f = if y % 2 = f then 42 else 46 := by
  have e : (y * W + x) / W = y := by
    rw [Nat.mul_comm, Nat.mul_add_div (by omega), Nat.div_eq_of_lt hx, Nat.add_zero]
  rw [strS, e]
def strN (W H f : Nat) : Nat := sumGo (strM W H f) W 0 (strM W H f).length



/-- What GreatestSum hands back. -/
def gsM (w h : Int) : Int := if szB w h 64 = true then (if (strN h.toNat w.toNat 0 : Int) < strN w.toNat h.toNat 0 then (strN w.toNat h.toNat 0 : Int) else (strN h.toNat w.toNat 0 : Int)) else 0
end Go.Proofs.Ythlbplmghjaeoae
