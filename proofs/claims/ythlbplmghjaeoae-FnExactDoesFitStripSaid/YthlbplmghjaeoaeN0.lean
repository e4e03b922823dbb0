/- The model and the program list the same neighbours; how many of them have a mine. -/
import Derived.Test.YthlbplmghjaeoaeN3
namespace Go.Proofs.Ythlbplmghjaeoae
open Go.RowKit

theorem nats_at {w : World} {a : Option Addr} {xs : List Nat} (h : At w a (nats xs)) (k : Nat) (hk : k < xs.length) : ∃ b off, a = some ⟨b, off, none⟩ ∧ w.cell? ⟨b, off + k, none⟩ = some (.int .i64 (xs[k] : Int)) := by
  obtain ⟨b, off, h1, h2⟩ := h k (by simpa using hk)
  exact ⟨b, off, h1, by rw [h2]; simp [nats, ints]⟩

/-- On every board of at most eight by eight the model and the program list the same neighbours. -/
theorem near_all : ∀ W, W < 9 → ∀ H, H < 9 → ∀ c, c < W * H → boNearM W H c = (nearM W (W * H) c).map Int.ofNat := by decide +kernel
theorem near_eq (W H c : Nat) (hW : W ≤ 8) (hH : H ≤ 8) (hc : c < W * H) : boNearM W H c = (nearM W (W * H) c).map Int.ofNat :=
  near_all W (by omega) H (by omega) c hc
theorem nearGo_lt (W : Geo) (c : Nat) : ∀ (m k : Nat), ∀ o ∈ nearGo W c k m, o < k + m
  | 0, _ => by simp [nearGo]
  | m + 1, k => by
    intro o ho
    unfold nearGo at ho
    by_cases h : nbW W c k = true
    · rw [if_pos h] at ho
      rcases List.mem_cons.1 ho with rfl | ho
      · omega
      · have := nearGo_lt W c m (k + 1) o ho; omega
    · rw [if_neg h] at ho
      have := nearGo_lt W c m (k + 1) o ho; omega
theorem nearM_lt (W : Geo) (n c o : Nat) (h : o ∈ nearM W n c) : o < n := by
  have := nearGo_lt W c n 0 o h; omega
theorem nearM_le (W : Geo) (n c : Nat) : (nearM W n c).length ≤ n := nearGo_le W c n 0

/-- How many of some cells have a mine. -/
def countAt (cells : List UInt8) : List Nat → Nat
  | [] => 0
  | o :: r => if cells.getD o 0 = 42 then countAt cells r + 1 else countAt cells r
theorem countAt_le (cells : List UInt8) : ∀ l : List Nat, countAt cells l ≤ l.length
  | [] => by simp [countAt]
  | o :: r => by
    have := countAt_le cells r
    unfold countAt; split <;> simp <;> omega
def numM (cells : List UInt8) (W : Geo) (c : Nat) : Nat := countAt cells (nearM W cells.length c)
theorem numM_le (cells : List UInt8) (W : Geo) (c : Nat) : numM cells W c ≤ cells.length := Nat.le_trans (countAt_le _ _) (nearM_le _ _ _)

theorem is42 (x : UInt8) : ((x.toNat : Int) == 42) = decide (x = 42) := by
  rw [show (42 : Int) = ((42 : Nat) : Int) from rfl, byte_beq _ 42 (by omega)]
  by_cases h : x = 42 <;> simp [h]

end Go.Proofs.Ythlbplmghjaeoae
