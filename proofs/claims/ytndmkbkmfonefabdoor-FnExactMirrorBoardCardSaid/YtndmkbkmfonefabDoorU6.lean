/- Walks: boards mirrored by the model. -/
import Derived.Test.YtndmkbkmfonefabDoorU5
namespace Go.Proofs.YtndmkbkmfonefabDoor
open Go.RowKit

/-- How far a counter that goes down has to go. -/
def mz (x : Value) : Nat := (intOf x + 1).toNat

set_option maxRecDepth 100000 in
set_option maxHeartbeats 1600000 in
theorem boMap_mirr (l : List UInt8) (W H : Nat) (cells : List UInt8) (w : World) (hl : l.length ≤ 1048576) (hB : Brd l W H cells) :
    Calls Tryd.prog 51 #[.string ⟨l.toArray⟩, .bool false] w fun e w' => e = .returned (.string ⟨(textM (permM cells (mirrD W) (W * H)) W H).toArray⟩) ∧ Below w.heap.size w w' := by
  have hn64 := hB.n64
  have HC := Lib.hid hB.cs
  have HS := Lib.hid hB.size
  have HL := Lib.hid hB.len
  have hW1 := hB.w1
  have hW8 := hB.w8
  have hH1 := hB.h1
  have hH8 := hB.h8
  have HBR : Hid (brGo W 0 (permM cells (mirrD W) (W * H)) = textM (permM cells (mirrD W) (W * H)) W H) := brGo_text W H hB.w1 _ (by rw [permM_length])
  clear hB
  go_enter Tryd.func51, Tryd.ntmps51
  go_wp2_with fail
  refine (boSize_any l _ hl).mono ?_
  rintro e w1 ⟨rfl, hb1⟩
  rw [HS.out]
  go_wp2_with fail
  refine (boCells_any l _ hl).mono ?_
  rintro e w1' ⟨rfl, rfl⟩
  rw [HC.out]
  go_wp2_with fail
  go_loop [8, 12] (fun o y => ∃ j : Nat, j ≤ H ∧ y = .int .i64 j ∧ o = .string ⟨(permM cells (mirrD W) (j * W)).toArray⟩) (fun _ y => H - (intOf y).toNat)
  case atStart => exact ⟨0, Nat.zero_le _, rfl, by rw [Nat.zero_mul]; rfl⟩
  case round =>
    obtain ⟨j, hj, rfl, rfl⟩ := hrel
    by_cases hlt : j < H
    · go_wp2_with fail
      go_loop [8, 13] (fun o x => ∃ i : Nat, i ≤ W ∧ ∃ z : Int, x = .int .i64 z ∧ Hid (z = (W : Int) - 1 - (i : Int)) ∧ o = .string ⟨(permM cells (mirrD W) (j * W + i)).toArray⟩) (fun _ x => mz x)
      case atStart => exact ⟨0, Nat.zero_le _, _, rfl, by simp [Hid], rfl⟩
      case round =>
        obtain ⟨i, hi, z, rfl, hz, rfl⟩ := hrel
        by_cases hlt2 : i < W
        · have hle : j * W + i < W * H := by
            have : (j + 1) * W ≤ H * W := Nat.mul_le_mul_right _ hlt
            rw [Nat.succ_mul, Nat.mul_comm H W] at this
            omega
          have hsl := (mirr_all W (by omega) H (by omega) _ hle).1
          rw [mirrD_at W i j hlt2, ← HL.out] at hsl
          have hsc := permM_succ cells (mirrD W) (j * W + i)
          rw [mirrD_at W i j hlt2] at hsc
          have hal : (permM cells (mirrD W) (j * W + i)).length ≤ 64 := by rw [permM_length]; rw [HL.out] at hn64; omega
          have hp : j * W ≤ 8 * 8 := Nat.mul_le_mul (by omega) hW8
          have e1 : ((j : Int)) * (W : Int) = ((j * W : Nat) : Int) := by simp
          obtain ⟨c, hc⟩ : ∃ c, W - 1 - i = c := ⟨_, rfl⟩
          obtain rfl : z = (c : Int) := by have := hz.out; omega
          rw [hc] at hsl hsc
          have HSC := Lib.hid hsc
          clear hsc
          generalize permM cells (mirrD W) (j * W + i) = acc at *
          generalize hjw : j * W = p at *
          have HJW := Lib.hid hjw
          clear hjw
          have m1 : wrap64 (((j : Int)) * (W : Int)) = (p : Int) := by rw [e1, IntWalk.wrap64_in _ ⟨by omega, by omega⟩]
          have ht1 := Lib.hid (take_one cells (p + c) hsl)
          clear e1
          have HCC := Lib.hid hc
          have hcW : c ≤ 8 := by omega
          clear hc
          have hc0 : (0 : Int) ≤ (c : Int) := by omega
          have hc1 : ((c : Int) ≥ 0) := hc0
          have H2 := Lib.hid hlt2
          clear hle hlt2 hi
          go_wp2_with fail
          go_round
          case rel => exact ⟨i + 1, H2.out, _, rfl, by have := hz.out; rw [Hid]; omega, by rw [ht1.out, ← HSC.out]; rfl⟩
          case measure => simp [mz, intOf]
        · obtain rfl : i = W := by omega
          obtain rfl : z = -1 := by have := hz.out; omega
          go_wp2_with fail
          go_round
          case rel => exact ⟨j + 1, by omega, by go_num, by rw [Nat.succ_mul]⟩
          case measure => simp [intOf]; omega
    · obtain rfl : j = H := by omega
      have hcm : j * W = W * j := Nat.mul_comm _ _
      rw [hcm]
      go_wp2_with fail
      refine (boRows_any _ W _ (by rw [permM_length, ← HL.out]; exact hn64) hW1 (by omega)).mono ?_
      rintro e w2 ⟨rfl, rfl⟩
      go_wp2_with fail
      go_ret
      exact ⟨by rw [HBR.out]; rfl, hb1⟩

set_option maxRecDepth 100000 in
set_option maxHeartbeats 800000 in
theorem sMirrorBoard_any (l : List UInt8) (w : World) (hl : l.length ≤ 1048576) :
    Calls Tryd.prog 19 #[.string ⟨l.toArray⟩] w fun e w' => e = .returned (.tuple #[.string ⟨(miM l).toArray⟩, .bool (boGoodM l)]) ∧ Below w.heap.size w w' := by
  by_cases hg : boGoodM l = true
  · have hB := Brd.of hg
    generalize headLen (splitB 47 l) = W at *
    generalize (splitB 47 l).length = H at *
    obtain ⟨g1, g2, g3⟩ := hB.grid
    have hmp := fun w => boMap_mirr l W H (cellsM l) w hl hB
    have HO := Lib.hid (show miM l = textM (permM (cellsM l) (mirrD W) (W * H)) W H by rw [miM, g1, g2, g3])
    simp only [← HO.out] at hmp
    have HG := Lib.hid hg
    clear g1 g2 g3 hB
    go_enter Tryd.func19, Tryd.ntmps19
    go_wp2_with fail
    refine (boGood_any l _ hl).mono ?_
    rintro e w1 ⟨rfl, hb1⟩
    go_wp2_with fail
    refine (hmp _).mono ?_
    rintro e w2 ⟨rfl, hb2⟩
    go_wp2_with fail
    go_ret2
    exact ⟨by rw [HG.out]; rfl, hb1.trans (hb2.mono hb1.size)⟩
  · have HT := Lib.hid (miM_none hg)
    have hg' : boGoodM l = false := by simpa using hg
    clear hg
    go_enter Tryd.func19, Tryd.ntmps19
    go_wp2_with (go_at_call 43; refine (boGood_any l _ hl).mono ?_; rintro e w1 ⟨rfl, hb1⟩)
    go_ret2
    exact ⟨by rw [HT.out, hg']; rfl, hb1⟩
end Go.Proofs.YtndmkbkmfonefabDoor
