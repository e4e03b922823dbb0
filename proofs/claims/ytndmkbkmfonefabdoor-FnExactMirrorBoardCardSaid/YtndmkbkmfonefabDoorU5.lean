/- Walks: boards turned and mirrored by the model. -/
import Derived.Test.YtndmkbkmfonefabDoorU2
import Derived.Test.YtndmkbkmfonefabDoorN5
import Derived.Outline
namespace Go.Proofs.YtndmkbkmfonefabDoor
open Go.RowKit

theorem take_one (cells : List UInt8) (k : Nat) (h : k < cells.length) : (cells.drop k).take 1 = [cells.getD k 0] := by
  rw [List.drop_eq_getElem_cons h, List.take_succ_cons, List.take_zero]
  simp [List.getD, h]

set_option maxRecDepth 100000 in
set_option maxHeartbeats 1600000 in
theorem boMap_turn (l : List UInt8) (W H : Nat) (cells : List UInt8) (w : World) (hl : l.length ≤ 1048576) (hB : Brd l W H cells) :
    Calls Tryd.prog 51 #[.string ⟨l.toArray⟩, .bool true] w fun e w' => e = .returned (.string ⟨(textM (permM cells (turnS W H) (W * H)) H W).toArray⟩) ∧ Below w.heap.size w w' := by
  have hn64 := hB.n64
  have HC := Lib.hid hB.cs
  have HS := Lib.hid hB.size
  have HL := Lib.hid hB.len
  have hW1 := hB.w1
  have hW8 := hB.w8
  have hH1 := hB.h1
  have hH8 := hB.h8
  have HBR : Hid (brGo H 0 (permM cells (turnS W H) (W * H)) = textM (permM cells (turnS W H) (W * H)) H W) := brGo_text H W hB.h1 _ (by rw [permM_length, Nat.mul_comm])
  clear hB
  go_enter Tryd.func51, Tryd.ntmps51
  go_wp2_with fail
  refine (boSize_any l _ hl).mono ?_
  rintro e w1 ⟨rfl, hb1⟩
  rw [HS.out]
  go_wp2_with fail
  refine (boCells_any l _ hl).mono ?_
  rintro e w1' ⟨rfl, rfl⟩
  rw [HC.out]
  go_wp2_with fail
  go_loop [8, 9] (fun o y => ∃ j : Nat, j ≤ W ∧ y = .int .i64 j ∧ o = .string ⟨(permM cells (turnS W H) (j * H)).toArray⟩) (fun _ y => W - (intOf y).toNat)
  case atStart => exact ⟨0, Nat.zero_le _, rfl, by rw [Nat.zero_mul]; rfl⟩
  case round =>
    obtain ⟨j, hj, rfl, rfl⟩ := hrel
    by_cases hlt : j < W
    · go_wp2_with fail
      go_loop [8, 10] (fun o x => ∃ i : Nat, i ≤ H ∧ x = .int .i64 i ∧ o = .string ⟨(permM cells (turnS W H) (j * H + i)).toArray⟩) (fun _ x => H - (intOf x).toNat)
      case atStart => exact ⟨0, Nat.zero_le _, rfl, rfl⟩
      case round =>
        obtain ⟨i, hi, rfl, rfl⟩ := hrel
        by_cases hlt2 : i < H
        · have hle : j * H + i < W * H := by
            have : (j + 1) * H ≤ W * H := Nat.mul_le_mul_right _ hlt
            rw [Nat.succ_mul] at this
            omega
          have hsl := (turn_all W (by omega) H (by omega) _ hle).2.1
          rw [turnS_at W H i j hlt2, ← HL.out] at hsl
          have hsc := permM_succ cells (turnS W H) (j * H + i)
          rw [turnS_at W H i j hlt2] at hsc
          have hal : (permM cells (turnS W H) (j * H + i)).length ≤ 64 := by rw [permM_length]; rw [HL.out] at hn64; omega
          have hp : (H - 1 - i) * W ≤ 8 * 8 := Nat.mul_le_mul (by omega) hW8
          have e1 : ((H : Int) - 1 - (i : Int)) * (W : Int) = (((H - 1 - i) * W : Nat) : Int) := by
            rw [show ((H : Int) - 1 - (i : Int)) = ((H - 1 - i : Nat) : Int) by omega]; simp
          generalize (H - 1 - i) * W = p at *
          have m1 : wrap64 (((H : Int) - 1 - (i : Int)) * (W : Int)) = (p : Int) := by rw [e1, IntWalk.wrap64_in _ ⟨by omega, by omega⟩]
          have HSC := Lib.hid hsc
          have ht1 := Lib.hid (take_one cells (p + j) hsl)
          have HP := Lib.hid hp
          clear e1 hsc
          generalize permM cells (turnS W H) (j * H + i) = acc at *
          go_wp2_with fail
          go_round
          case rel => exact ⟨i + 1, by omega, by go_num, by rw [ht1.out, ← HSC.out]; rfl⟩
          case measure => simp [intOf]; omega
        · obtain rfl : i = H := by omega
          go_wp2_with fail
          go_round
          case rel => exact ⟨j + 1, by omega, by go_num, by rw [Nat.succ_mul]⟩
          case measure => simp [intOf]; omega
    · obtain rfl : j = W := by omega
      go_wp2_with fail
      refine (boRows_any _ H _ (by rw [permM_length, ← HL.out]; exact hn64) hH1 (by omega)).mono ?_
      rintro e w2 ⟨rfl, rfl⟩
      go_wp2_with fail
      go_ret
      exact ⟨by rw [HBR.out]; rfl, hb1⟩

set_option maxRecDepth 100000 in
set_option maxHeartbeats 800000 in
theorem sTurnBoard_any (l : List UInt8) (w : World) (hl : l.length ≤ 1048576) :
    Calls Tryd.prog 17 #[.string ⟨l.toArray⟩] w fun e w' => e = .returned (.tuple #[.string ⟨(tuM l).toArray⟩, .bool (boGoodM l)]) ∧ Below w.heap.size w w' := by
  by_cases hg : boGoodM l = true
  · have hB := Brd.of hg
    generalize headLen (splitB 47 l) = W at *
    generalize (splitB 47 l).length = H at *
    obtain ⟨g1, g2, g3⟩ := hB.grid
    have hmp := fun w => boMap_turn l W H (cellsM l) w hl hB
    have HO := Lib.hid (show tuM l = textM (permM (cellsM l) (turnS W H) (W * H)) H W by rw [tuM, g1, g2, g3])
    simp only [← HO.out] at hmp
    have HG := Lib.hid hg
    clear g1 g2 g3 hB
    go_enter Tryd.func17, Tryd.ntmps17
    go_wp2_with fail
    refine (boGood_any l _ hl).mono ?_
    rintro e w1 ⟨rfl, hb1⟩
    go_wp2_with fail
    refine (hmp _).mono ?_
    rintro e w2 ⟨rfl, hb2⟩
    go_wp2_with fail
    go_ret2
    exact ⟨by rw [HG.out]; rfl, hb1.trans (hb2.mono hb1.size)⟩
  · have HT := Lib.hid (tuM_none hg)
    have hg' : boGoodM l = false := by simpa using hg
    clear hg
    go_enter Tryd.func17, Tryd.ntmps17
    go_wp2_with (go_at_call 43; refine (boGood_any l _ hl).mono ?_; rintro e w1 ⟨rfl, hb1⟩)
    go_ret2
    exact ⟨by rw [HT.out, hg']; rfl, hb1⟩
end Go.Proofs.YtndmkbkmfonefabDoor
