/- The numbers of listed boards are the model's. -/
import Derived.Test.YthlbplmghjaeoaaDoorKA
import Derived.Test.YthlbplmghjaeoaaDoorGK0
import Derived.Test.YthlbplmghjaeoaaDoorN9
import Derived.Outline
namespace Go.Proofs.YthlbplmghjaeoaaDoor

theorem pre_at (W n : Nat) (u : List UInt8) (i : Nat) (hi : i < 12) : (preB W n u).at i = u.getD i 0 := preP_sign W n u i hi
theorem pre_num (W n : Nat) (u : List UInt8) (i : Nat) (hi : i < 12) : (preB W n u).at (12 + i) = UInt8.ofNat (numW W n u i) := preP_num W n u i hi
/-- The number of a cell of a listed board. -/
theorem pre_numM (W H : Nat) (hW : W ≤ 8) (hH : H ≤ 8) (h12 : W * H ≤ 12) (c : List UInt8) (hn : c.length = W * H) (i : Nat) (hi : i < W * H) : ((preB W (W * H) c).at (12 + i)).toNat = numM c W i := by
  rw [pre_num _ _ _ _ (by omega), numW_num W H hW hH h12 c hn i hi]
  have := numM_le c W i
  rw [UInt8.toNat_ofNat']
  omega
end Go.Proofs.YthlbplmghjaeoaaDoor
