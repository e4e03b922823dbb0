/- Walks: the picture of a board: the model of it, the model's own walk. -/
import Derived.Test.YthlbplmghjaeoacT7
import Derived.Test.YthlbplmghjaeoacN5
import Derived.Test.YthlbplmghjaeoacE
import Derived.Outline
namespace Go.Proofs.Ythlbplmghjaeoac
open Go.RowKit

theorem nearM_nine (W H c : Nat) (hW : W ≤ 8) (hH : H ≤ 8) (hc : c < W * H) : (nearM W (W * H) c).length ≤ 9 := by
  have h1 := congrArg List.length (near_eq W H c hW hH hc)
  have h2 := boNearM_le W H c
  simp only [List.length_map] at h1
  omega
theorem numM_nine (cells : List UInt8) (W H c : Nat) (hW : W ≤ 8) (hH : H ≤ 8) (hn : cells.length = W * H) (hc : c < cells.length) : numM cells W c ≤ 9 := by
  have h1 := countAt_le cells (nearM W cells.length c)
  have h2 := nearM_nine W H c hW hH (by omega)
  unfold numM
  rw [hn] at h1 ⊢
  omega

theorem nearJ_all : ∀ W, W < 9 → ∀ H, H < 9 → ∀ c, c < W * H → (nearM (.around W H) (W * H) c).length ≤ 9 := by decide +kernel
theorem numJ_nine (J : Bool) (cells : List UInt8) (W H c : Nat) (hW : W ≤ 8) (hH : H ≤ 8) (hn : cells.length = W * H) (hc : c < cells.length) : numM cells (geoOf J W H) c ≤ 9 := by
  cases J with
  | false => exact numM_nine cells W H c hW hH hn hc
  | true =>
    have h1 := countAt_le cells (nearM (.around W H) cells.length c)
    have h2 := nearJ_all W (by omega) H (by omega) c (by omega)
    show countAt cells (nearM (.around W H) cells.length c) ≤ 9
    rw [hn] at h1 ⊢
    omega

/-- The sign of a cell in a picture. -/
def picB (cells : List UInt8) (W : Geo) (k : Nat) : UInt8 := if cells.getD k 0 = 42 then 42 else digB (numM cells W k)
def picGo (cells : List UInt8) (W : Geo) (k : Nat) : Nat → List UInt8
  | 0 => []
  | m + 1 => picB cells W k :: picGo cells W (k + 1) m
@[simp] theorem picGo_length (cells : List UInt8) (W : Geo) : ∀ (m k : Nat), (picGo cells W k m).length = m
  | 0, _ => rfl
  | m + 1, k => by rw [picGo, List.length_cons, picGo_length cells W m]
theorem picGo_snoc (cells : List UInt8) (W : Geo) : ∀ (m k : Nat), picGo cells W k (m + 1) = picGo cells W k m ++ [picB cells W (k + m)]
  | 0, k => rfl
  | m + 1, k => by
    rw [picGo, picGo_snoc cells W m (k + 1), picGo]
    simp only [List.cons_append]
    rw [show k + 1 + m = k + (m + 1) by omega]
theorem picGo_get (cells : List UInt8) (W : Geo) : ∀ (m k j : Nat) (h : j < (picGo cells W k m).length), (picGo cells W k m)[j] = picB cells W (k + j)
  | 0, _, _, h => by simp [picGo] at h
  | m + 1, k, 0, _ => rfl
  | m + 1, k, j + 1, h => by
    simp only [picGo, List.getElem_cons_succ]
    rw [picGo_get cells W m (k + 1) j]
    congr 1
    omega


end Go.Proofs.Ythlbplmghjaeoac
