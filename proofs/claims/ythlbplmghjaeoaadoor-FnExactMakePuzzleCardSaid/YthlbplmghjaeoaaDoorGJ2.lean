/- J2, J3, J4, laid as one text. -/
import Derived.Test.YthlbplmghjaeoaaDoorJ1
import Derived.Test.YthlbplmghjaeoaaDoorGN1
import Derived.Outline
import Derived.Lib.RabinKarpLaws
import Derived.Test.YthlbplmghjaeoaaDoorGS2

/- Counts by the model: pairs of cells, boards by mines, by a number of a cell, mines apart. -/
namespace Go.Proofs.YthlbplmghjaeoaaDoor
open Go.RowKit

/-- What PairsOfCells hands back. -/
def pcM (w h : Int) : Int := if szB w h 64 = true then prsM w h else 0
/-- What CountBoards hands back. -/
def cbB (w h m : Int) : Bool := szB w h 12 && inB m 0 (w * h)
def cbM (w h m : Int) : Int := if cbB w h m = true then chI (w.toNat * h.toNat) m else 0
/-- What MostApart hands back. -/
def maM (w h : Int) : Int := if szB w h 12 = true then (w + 1) / 2 * ((h + 1) / 2) else 0
/-- What CountWithNumber hands back. -/
def cnB (w h m c d : Int) : Bool := szB w h 12 && inB m 0 (w * h) && inB c 0 (w * h - 1) && inB d 0 8
def cnM (w h m c d : Int) : Int := if cnB w h m c d = true then chI (nearM w.toNat (w.toNat * h.toNat) c.toNat).length d * chI (w.toNat * h.toNat - 1 - (nearM w.toNat (w.toNat * h.toNat) c.toNat).length) (m - d) else 0

theorem chI_all : ∀ n < 13, ∀ k < 13, binom n k ≤ 924 := by decide +kernel
theorem chI_le (n : Nat) (k : Int) (hn : n ≤ 12) : 0 ≤ chI n k ∧ chI n k ≤ 924 := by
  unfold chI
  split
  · by_cases hk : k.toNat < 13
    · have := chI_all n (by omega) k.toNat hk
      omega
    · rw [binom_over n k.toNat (by omega)]
      omega
  · omega
theorem near12_all : ∀ W : Nat, W < 9 → ∀ H : Nat, H < 9 → W * H ≤ 12 → ∀ c, c < W * H → (nearM W (W * H) c).length + 1 ≤ W * H ∧ (nearM W (W * H) c).length ≤ 8 := by decide +kernel



end Go.Proofs.YthlbplmghjaeoaaDoor

/- Counts by the model: a board by its number. -/
namespace Go.Proofs.YthlbplmghjaeoaaDoor
open Go.RowKit

/-- The cells of the board with a number. -/
def ctB (n m : Nat) : List UInt8 := (List.range n).map fun i => if m.testBit (n - 1 - i) = true then 46 else 42
theorem ctB_length (n m : Nat) : (ctB n m).length = n := by simp [ctB]
theorem ctB_snoc (n m j : Nat) (h : j < n) : (ctB n m).take (j + 1) = (ctB n m).take j ++ [if m.testBit (n - 1 - j) = true then 46 else 42] := by
  rw [List.take_succ_eq_append_getElem (by rw [ctB_length]; exact h)]
  simp [ctB]

theorem bit_zero (m q : Nat) (hm : m < 4096) : (bits BinOp.and IntKind.i64 ((m : Int) / 2 ^ q) 1 == 0) = !m.testBit q := by
  have e : (m : Int) / 2 ^ q = ((m / 2 ^ q : Nat) : Int) := by simp
  have h : m / 2 ^ q ≤ m := Nat.div_le_self _ _
  rw [e, and_one _ (by omega), Nat.testBit_eq_decide_div_mod_eq]
  have h2 : m / 2 ^ q % 2 = 0 ∨ m / 2 ^ q % 2 = 1 := by omega
  rcases h2 with h2 | h2 <;> rw [h2] <;> rfl

end Go.Proofs.YthlbplmghjaeoaaDoor

/- Counts by the model: all boards of so many cells. -/
namespace Go.Proofs.YthlbplmghjaeoaaDoor
open Go.RowKit

/-- Has a board so many mines, where any number may be told? -/
def mnB (mines : Int) (cells : List UInt8) : Bool := decide (mines < 0) || decide (((places 42 cells).length : Int) = mines)
/-- The first boards of so many cells, in order, and all. -/
def allK (n : Nat) (mines : Int) (k : Nat) : List (List UInt8) := ((List.range k).map (ctB n)).filter (mnB mines)
def allM (n : Nat) (mines : Int) : List (List UInt8) := allK n mines (2 ^ n)
theorem allK_snoc (n : Nat) (mines : Int) (k : Nat) : allK n mines (k + 1) = allK n mines k ++ (if mnB mines (ctB n k) = true then [ctB n k] else []) := by
  rw [allK, List.range_succ, List.map_append, List.filter_append, allK]
  simp [List.filter_cons]
theorem allK_le (n : Nat) (mines : Int) (k : Nat) : (allK n mines k).length ≤ k := by
  refine Nat.le_trans (List.length_filter_le _ _) ?_
  simp
theorem pow12 {n : Nat} (h : n ≤ 12) : 1 ≤ 2 ^ n ∧ 2 ^ n ≤ 4096 := ⟨Nat.one_le_two_pow, Nat.pow_le_pow_right (by decide) h⟩
theorem allM_le (n : Nat) (mines : Int) (hn : n ≤ 12) : (allM n mines).length ≤ 4096 := Nat.le_trans (allK_le _ _ _) (pow12 hn).2
theorem allM_len {n : Nat} {mines : Int} {c : List UInt8} (h : c ∈ allM n mines) : c.length = n := by
  obtain ⟨h1, _⟩ := List.mem_filter.1 h
  obtain ⟨m, _, rfl⟩ := List.mem_map.1 h1
  exact ctB_length n m

end Go.Proofs.YthlbplmghjaeoaaDoor
