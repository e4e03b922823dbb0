/- Sets of cells by the program: how many a set has. -/
import Derived.Test.YthlbplmghjaeoabDoorC3
import Derived.Outline
namespace Go.Proofs.YthlbplmghjaeoabDoor
open Go.RowKit

theorem sA_all (x : Nat) (h : x < 18446744073709551616) : sA (x : Int) = (nAB 2 6148914691236517205 x : Nat) := by
  have e := u64_and (x / 2) 6148914691236517205 (by omega) (by omega)
  have e2 := u64_and x 6148914691236517205 (by omega) (by omega)
  have hl : x / 2 &&& 6148914691236517205 ≤ 6148914691236517205 := Nat.and_le_right
  have hl2 : x &&& 6148914691236517205 ≤ 6148914691236517205 := Nat.and_le_right
  have e3 : ((x : Int) / 2) = ((x / 2 : Nat) : Int) := rfl
  have e4 : (6148914691236517205 : Int) = ((6148914691236517205 : Nat) : Int) := rfl
  rw [sA, e3, e4, e, e2]
  unfold nAB
  rw [← Int.natCast_add]
  exact wrap_u64 _ (by omega) (by omega)
theorem sB_all (x : Nat) (h : x < 18446744073709551616) : sB (x : Int) = (nAB 4 3689348814741910323 x : Nat) := by
  have e := u64_and (x / 4) 3689348814741910323 (by omega) (by omega)
  have e2 := u64_and x 3689348814741910323 (by omega) (by omega)
  have hl : x / 4 &&& 3689348814741910323 ≤ 3689348814741910323 := Nat.and_le_right
  have hl2 : x &&& 3689348814741910323 ≤ 3689348814741910323 := Nat.and_le_right
  have e3 : ((x : Int) / 4) = ((x / 4 : Nat) : Int) := rfl
  have e4 : (3689348814741910323 : Int) = ((3689348814741910323 : Nat) : Int) := rfl
  rw [sB, e3, e4, e, e2]
  unfold nAB
  rw [← Int.natCast_add]
  exact wrap_u64 _ (by omega) (by omega)
theorem sC_all (x : Nat) (h : x ≤ 7378697629483820646) : sC (x : Int) = (nC x : Nat) := by
  have e3 : ((x : Int) / 16) = ((x / 16 : Nat) : Int) := rfl
  have e4 : (1085102592571150095 : Int) = ((1085102592571150095 : Nat) : Int) := rfl
  rw [sC, e3, ← Int.natCast_add, wrap_u64 _ (by omega) (by omega), e4, u64_and _ _ (by omega) (by omega)]
  rfl
theorem sD_all (k x : Nat) (h : x ≤ 4611686018427387904) : sD (k : Int) (x : Int) = (nD k x : Nat) := by
  have e3 : ((x : Int) / (k : Int)) = ((x / k : Nat) : Int) := rfl
  have hd := Nat.div_le_self x k
  unfold nD
  rw [sD, e3]
  clear e3
  generalize x / k = d at *
  rw [← Int.natCast_add]
  exact wrap_u64 _ (by omega) (by omega)
theorem nAB4_le (x : Nat) : nAB 4 3689348814741910323 x ≤ 7378697629483820646 := by
  have hl : x / 4 &&& 3689348814741910323 ≤ 3689348814741910323 := Nat.and_le_right
  have hl2 : x &&& 3689348814741910323 ≤ 3689348814741910323 := Nat.and_le_right
  unfold nAB
  omega
theorem nC_lt (x : Nat) : nC x ≤ 1085102592571150095 := Nat.and_le_right
theorem pop_full (x : Nat) (h : x < 18446744073709551616) : popX (x : Int) = ((bitsM x).length : Int) := by
  have h1 : nAB 2 6148914691236517205 x ≤ 12297829382473034410 := by
    have hl : x / 2 &&& 6148914691236517205 ≤ 6148914691236517205 := Nat.and_le_right
    have hl2 : x &&& 6148914691236517205 ≤ 6148914691236517205 := Nat.and_le_right
    unfold nAB
    omega
  have h2 := nAB4_le (nAB 2 6148914691236517205 x)
  have h3 := nC_lt (nAB 4 3689348814741910323 (nAB 2 6148914691236517205 x))
  have h4 := nD_le 256 (nC (nAB 4 3689348814741910323 (nAB 2 6148914691236517205 x)))
  have h5 := nD_le 65536 (nD 256 (nC (nAB 4 3689348814741910323 (nAB 2 6148914691236517205 x))))
  have h6 := nD_le 4294967296 (nD 65536 (nD 256 (nC (nAB 4 3689348814741910323 (nAB 2 6148914691236517205 x)))))
  have e5 : ∀ n : Nat, n < 9223372036854775808 → wrap64 (n : Int) = (n : Int) := fun n hn => by unfold wrap64; omega
  have e6 : ∀ n : Nat, n < 9223372036854775808 → bits .and .i64 (n : Int) (127 : Int) = ((n &&& 127 : Nat) : Int) := fun n hn =>
    (bits_nat .i64 63 (by decide) (fun m h0 h1 => IntWalk.i64_in m ⟨by omega, by omega⟩) n 127 (by omega) (by omega)).1
  have q1 := sD_all 256 (nC (nAB 4 3689348814741910323 (nAB 2 6148914691236517205 x))) (by omega)
  have q2 := sD_all 65536 (nD 256 (nC (nAB 4 3689348814741910323 (nAB 2 6148914691236517205 x)))) (by omega)
  have q3 := sD_all 4294967296 (nD 65536 (nD 256 (nC (nAB 4 3689348814741910323 (nAB 2 6148914691236517205 x))))) (by omega)
  have q := popN_len x h
  rw [popX, sA_all x h, sB_all _ (by omega), sC_all _ h2]
  rw [show (256 : Int) = ((256 : Nat) : Int) from rfl, q1, show (65536 : Int) = ((65536 : Nat) : Int) from rfl, q2, show (4294967296 : Int) = ((4294967296 : Nat) : Int) from rfl, q3, e5 _ (by omega), e6 _ (by omega), ← q]
  rfl

set_option maxRecDepth 100000 in
set_option maxHeartbeats 1600000 in
theorem ones64_full (x : Nat) (w : World) (hx : x < 18446744073709551616) :
    Calls Tryd.prog 95 #[.int .u64 (x : Int)] w fun e w' => e = .returned (.int .i64 ((bitsM x).length : Nat)) ∧ w = w' := by
  have H := Lib.hid (pop_full x hx)
  go_enter Tryd.func95, Tryd.ntmps95
  go_wp2
  go_ret
  exact ⟨by rw [← H.out]; rfl, rfl⟩
theorem areaCount_any (x : Nat) (w : World) (hx : x < 18446744073709551616) :
    Calls Tryd.prog 83 #[.int .u64 (x : Int)] w fun e w' => e = .returned (.int .i64 ((bitsM x).length : Nat)) ∧ w = w' := by
  go_enter Tryd.func83, Tryd.ntmps83
  go_wp2_with fail
  refine (ones64_full x _ hx).mono ?_
  rintro e w1 ⟨rfl, rfl⟩
  go_wp2_with fail
  go_ret
  exact ⟨rfl, rfl⟩
end Go.Proofs.YthlbplmghjaeoabDoor
