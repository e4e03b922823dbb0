/- Walks: the number of a cell, by the model and by the program. -/
import Derived.Test.YthlbplmghjaeoaaDoorN0
import Derived.Outline
namespace Go.Proofs.YthlbplmghjaeoaaDoor
open Go.RowKit

set_option maxRecDepth 100000 in
set_option maxHeartbeats 1600000 in
theorem boNumber_any (W H : Nat) (cells : List UInt8) (c : Nat) (w : World) (hW : 1 ≤ W ∧ W ≤ 8) (hH : H ≤ 8) (hn : cells.length = W * H) (hc : c < cells.length) :
    Calls Tryd.prog 94 #[.string ⟨cells.toArray⟩, .int .i64 W, .int .i64 c] w fun e w' => e = .returned (.int .i64 (numM cells W c)) ∧ Below w.heap.size w w' := by
  have hn64 : cells.length ≤ 64 := by rw [hn]; exact Nat.mul_le_mul hW.2 hH
  have hq : ((cells.length : Int) / (W : Int)) = (H : Int) := by
    rw [hn]; simp only [Int.natCast_mul]; exact Int.mul_ediv_cancel_left _ (by omega)
  have hne := near_eq W H c hW.2 hH (by omega)
  rw [← hn] at hne
  have hNlt : ∀ o ∈ nearM W cells.length c, o < cells.length := fun o ho => nearM_lt _ _ _ _ ho
  have hNle := nearM_le W cells.length c
  have hT : Hid (numM cells W c = countAt cells (nearM W cells.length c)) := rfl
  have hcn : c < W * H := by omega
  have HN := Lib.hid hn
  clear hn
  have HNE := Lib.hid hne
  clear hne
  have hw : wrap64 ((cells.length : Int) / (W : Int)) = (H : Int) := by rw [hq, IntWalk.wrap64_in _ ⟨by omega, by omega⟩]
  go_enter Tryd.func94, Tryd.ntmps94
  go_wp2_with fail
  clear hw
  have HQ := Lib.hid hq
  clear hq
  refine (boNear_any W H c _ hW hH (by omega)).mono ?_
  rintro e w1 ⟨a, cap, rfl, hown, hb⟩
  rw [HNE.out] at hown ⊢
  have hat : At w1 a (nats (nearM W cells.length c)) := hown.at
  simp only [List.length_map]
  clear HNE hown
  generalize nearM W cells.length c = N at *
  go_wp2_with fail
  go_loop [7, 18] (fun q i => ∃ k : Nat, k ≤ N.length ∧ i = .int .i64 k ∧ ∃ s : Nat, s ≤ k ∧ q = .int .i64 s ∧ Hid (numM cells W c = s + countAt cells (N.drop k))) (fun _ i => N.length - (intOf i).toNat)
  case atStart => exact ⟨0, Nat.zero_le _, rfl, 0, by omega, rfl, by rw [Hid, hT.out]; simp⟩
  case round =>
    obtain ⟨k, hk, rfl, s, hs, rfl, hR⟩ := hrel
    by_cases hlt : k < N.length
    · obtain ⟨b, off, rfl, hcell⟩ := nats_at hat k hlt
      have Ht := Lib.hid (List.drop_eq_getElem_cons hlt)
      have ho := hNlt _ (List.getElem_mem hlt)
      generalize N[k] = o at *
      have hgd : Hid (cells.getD o 0 = cells[o]) := by simp [Hid, List.getD, ho]
      by_cases h42 : cells[o] = 42
      · have hd : ((cells[o].toNat : Int) == 42) = true := by rw [is42]; simp [h42]
        have H42 := Lib.hid h42
        clear h42
        go_wp2_with fail
        go_round
        case rel => exact ⟨k + 1, by omega, by go_num, s + 1, by omega, by go_num, by rw [Hid, hR.out, Ht.out, countAt, hgd.out, if_pos H42.out]; omega⟩
        case measure => simp [intOf]; omega
      · have hd : ((cells[o].toNat : Int) == 42) = false := by rw [is42]; simp [h42]
        have H42 := Lib.hid h42
        clear h42
        go_wp2_with fail
        go_round
        case rel => exact ⟨k + 1, by omega, by go_num, s, by omega, rfl, by rw [Hid, hR.out, Ht.out, countAt, hgd.out, if_neg H42.out]⟩
        case measure => simp [intOf]; omega
    · obtain rfl : k = N.length := by omega
      have hfin : s = numM cells W c := by rw [hR.out]; simp [countAt]
      go_wp2_with fail
      go_ret
      exact ⟨by rw [← hfin]; rfl, hb⟩

end Go.Proofs.YthlbplmghjaeoaaDoor
