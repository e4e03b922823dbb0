/- Walks: the picture of a board: the model of it, the model's own walk. -/
import Derived.Test.YthlbplmghjaeoaeT7
import Derived.Test.YthlbplmghjaeoaeGN1
import Derived.Test.YthlbplmghjaeoaeE
import Derived.Outline
namespace Go.Proofs.Ythlbplmghjaeoae
open Go.RowKit

theorem nearM_nine (W H c : Nat) (hW : W ≤ 8) (hH : H ≤ 8) (hc : c < W * H) : (nearM W (W * H) c).length ≤ 9 := by
  have h1 := congrArg List.length (near_eq W H c hW hH hc)
  have h2 := boNearM_le W H c
  simp only [List.length_map] at h1
  omega
theorem numM_nine (cells : List UInt8) (W H c : Nat) (hW : W ≤ 8) (hH : H ≤ 8) (hn : cells.length = W * H) (hc : c < cells.length) : numM cells W c ≤ 9 := by
  have h1 := countAt_le cells (nearM W cells.length c)
  have h2 := nearM_nine W H c hW hH (by omega)
  unfold numM
  rw [hn] at h1 ⊢
  omega

theorem nearJ_all : ∀ W, W < 9 → ∀ H, H < 9 → ∀ c, c < W * H → (nearM (.around W H) (W * H) c).length ≤ 9 := by decide +kernel
theorem numJ_nine (J : Bool) (cells : List UInt8) (W H c : Nat) (hW : W ≤ 8) (hH : H ≤ 8) (hn : cells.length = W * H) (hc : c < cells.length) : numM cells (geoOf J W H) c ≤ 9 := by
  cases J with
  | false => exact numM_nine cells W H c hW hH hn hc
  | true =>
    have h1 := countAt_le cells (nearM (.around W H) cells.length c)
    have h2 := nearJ_all W (by omega) H (by omega) c (by omega)
    show countAt cells (nearM (.around W H) cells.length c) ≤ 9
    rw [hn] at h1 ⊢
    omega

/-- The sign of a cell in a picture. -/
def picB (cells : List UInt8) (W : Geo) (k : Nat) : UInt8 := if cells.getD k 0 = 42 then 42 else digB (numM cells W k)
def picGo (cells : List UInt8) (W : Geo) (k : Nat) : Nat → List UInt8
  | 0 => []
  | m + 1 => picB cells W k :: picGo cells W (k + 1) m
@[simp] theorem picGo_length (cells : List UInt8) (W : Geo) : ∀ (m k : Nat), (picGo cells W k m).length = m
  | 0, _ => rfl
  | m + 1, k => by rw [picGo, List.length_cons, picGo_length cells W m]
theorem picGo_snoc (cells : List UInt8) (W : Geo) : ∀ (m k : Nat), picGo cells W k (m + 1) = picGo cells W k m ++ [picB cells W (k + m)]
  | 0, k => rfl
  | m + 1, k => by
    rw [picGo, picGo_snoc cells W m (k + 1), picGo]
    simp only [List.cons_append]
    rw [show k + 1 + m = k + (m + 1) by omega]
theorem picGo_get (cells : List UInt8) (W : Geo) : ∀ (m k j : Nat) (h : j < (picGo cells W k m).length), (picGo cells W k m)[j] = picB cells W (k + j)
  | 0, _, _, h => by simp [picGo] at h
  | m + 1, k, 0, _ => rfl
  | m + 1, k, j + 1, h => by
    simp only [picGo, List.getElem_cons_succ]
    rw [picGo_get cells W m (k + 1) j]
    congr 1
    omega

set_option maxRecDepth 100000 in
set_option maxHeartbeats 800000 in
theorem l1Num_any (n : Nat) (w : World) (hn : n ≤ 9) :
    Calls Try.prog 47 #[.int .i64 n] w fun e w' => e = .returned (.string ⟨[digB n].toArray⟩) ∧ Below w.heap.size w w' := by
  have hd := digB_nat n hn
  have hcv := run_convert_bytes_back (P := Try.prog) (w.alloc (.cells #[.int .u8 (48 + (n : Int))] 5)) 64 9 5 ⟨w.heap.size, 0, none⟩ 1 [digB n] Try.underlying64 Try.underlying5 Try.underlying9 (fun j hj => by
    obtain rfl : j = 0 := by simp at hj; omega
    refine cell_one_new _ _ _ 0 _ ?_
    simp [hd])
  simp only [List.length_cons, List.length_nil, Nat.zero_add] at hcv
  go_enter Try.func47, Try.ntmps47
  go_wp2_with fail
  go_ret
  exact ⟨rfl, (Below.refl _ _).alloc (Nat.le_refl _) _⟩

end Go.Proofs.Ythlbplmghjaeoae
