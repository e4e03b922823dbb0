/- Walks: the sum of the numbers of the free cells, by the model and by the program. -/
import Derived.Test.YthlbplmghjaeoaaDoorGN1
import Derived.Outline
namespace Go.Proofs.YthlbplmghjaeoaaDoor
open Go.RowKit

def sumGo (cells : List UInt8) (W : Geo) (k : Nat) : Nat → Nat
  | 0 => 0
  | m + 1 => if cells.getD k 0 = 42 then sumGo cells W (k + 1) m else numM cells W k + sumGo cells W (k + 1) m
def sumOf (l : List UInt8) : Nat := sumGo (gCells l) (gW l) 0 (gCells l).length
theorem sumGo_le (cells : List UInt8) (W : Geo) : ∀ (m k : Nat), sumGo cells W k m ≤ m * cells.length
  | 0, _ => by simp [sumGo]
  | m + 1, k => by
    have h1 := sumGo_le cells W m (k + 1)
    have h2 := numM_le cells W k
    unfold sumGo
    rw [Nat.add_mul]
    split <;> omega
theorem numsGo_get (cells : List UInt8) (W : Geo) : ∀ (m k j : Nat) (h : j < (numsGo cells W k m).length), (numsGo cells W k m)[j] = numM cells W (k + j)
  | 0, _, _, h => by simp [numsGo] at h
  | m + 1, k, 0, _ => by simp [numsGo]
  | m + 1, k, j + 1, h => by
    simp only [numsGo, List.getElem_cons_succ]
    rw [numsGo_get cells W m (k + 1) j]
    congr 1
    omega
theorem numsM_get (cells : List UInt8) (W : Geo) (j : Nat) (h : j < (numsM cells W).length) : (numsM cells W)[j] = numM cells W j := by
  have e := numsGo_get cells W cells.length 0 j h
  rw [Nat.zero_add] at e
  exact e

set_option maxRecDepth 100000 in
set_option maxHeartbeats 1600000 in
theorem boSum_any (l : List UInt8) (W H : Nat) (cells : List UInt8) (w : World) (hl : l.length ≤ 1048576) (hB : Brd l W H cells) :
    Calls Tryd.prog 95 #[.string ⟨l.toArray⟩] w fun e w' => e = .returned (.int .i64 (sumGo cells W 0 cells.length)) ∧ Below w.heap.size w w' := by
  have hn64 := hB.n64
  have HC := Lib.hid hB.cs
  go_enter Tryd.func95, Tryd.ntmps95
  go_wp2_with fail
  refine (boCells_any l _ hl).mono ?_
  rintro e w1' ⟨rfl, rfl⟩
  rw [HC.out]
  go_wp2_with fail
  refine (boNumbers_any l W H cells _ hl hB).mono ?_
  rintro e w1 ⟨a, cap, rfl, hown, hb⟩
  have hat := hown.at
  clear hown hB
  have hT : Hid (sumGo cells W 0 cells.length = 0 + sumGo cells W 0 (cells.length - 0)) := by simp [Hid]
  go_wp2_with fail
  go_loop [4, 12] (fun q i => ∃ k : Nat, k ≤ cells.length ∧ i = .int .i64 k ∧ ∃ s : Nat, s ≤ k * 64 ∧ q = .int .i64 s ∧ Hid (sumGo cells W 0 cells.length = s + sumGo cells W k (cells.length - k))) (fun _ i => cells.length - (intOf i).toNat)
  case atStart => exact ⟨0, Nat.zero_le _, rfl, 0, by omega, rfl, hT⟩
  case round =>
    obtain ⟨k, hk, rfl, s, hs, rfl, hR⟩ := hrel
    by_cases hlt : k < cells.length
    · obtain ⟨b, off, he, hcell⟩ := nats_at hat k (by simpa using hlt)
      subst he
      rw [numsM_get] at hcell
      have hnum := numM_le cells W k
      have hgd : Hid (cells.getD k 0 = cells[k]) := by simp [Hid, List.getD, hlt]
      have hst : Hid (sumGo cells W k (cells.length - k) = if cells[k] = 42 then sumGo cells W (k + 1) (cells.length - (k + 1)) else numM cells W k + sumGo cells W (k + 1) (cells.length - (k + 1))) := by
        rw [Hid, show cells.length - k = (cells.length - (k + 1)) + 1 by omega, sumGo, hgd.out]
      by_cases h42 : cells[k] = 42
      · have hd : ((cells[k].toNat : Int) != 42) = false := by simp only [bne, is42]; simp [h42]
        have H42 := Lib.hid h42
        clear h42
        go_wp2_with fail
        go_round
        case rel => exact ⟨k + 1, by omega, by go_num, s, by omega, rfl, by rw [Hid, hR.out, hst.out, if_pos H42.out]⟩
        case measure => simp [intOf]; omega
      · have hd : ((cells[k].toNat : Int) != 42) = true := by simp only [bne, is42]; simp [h42]
        have H42 := Lib.hid h42
        clear h42
        go_wp2_with fail
        go_round
        case rel => exact ⟨k + 1, by omega, by go_num, s + numM cells W k, by omega, by go_num, by rw [Hid, hR.out, hst.out, if_neg H42.out]; omega⟩
        case measure => simp [intOf]; omega
    · obtain rfl : k = cells.length := by omega
      have hfin : s = sumGo cells W 0 cells.length := by rw [hR.out]; simp [sumGo]
      go_wp2_with fail
      go_ret
      exact ⟨by rw [← hfin]; rfl, hb⟩



end Go.Proofs.YthlbplmghjaeoaaDoor
