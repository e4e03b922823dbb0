/- Notes: FirstPair by the program. -/
import Derived.Test.YthlbplmghjaeoacDoorCR
import Derived.Outline
namespace Go.Proofs.YthlbplmghjaeoacDoor
open Go.RowKit

theorem fp_mask (l : List UInt8) : fnd (fpM l).2.2 = !(maskM (fpM l).2.2.1 == 0 && maskM (fpM l).2.2.2 == 0) := by
  obtain ⟨h1, h2⟩ := fstP_cel (snC l) (snW l) (opens (snC l)) (opens (snC l))
  exact fnd_mask (sn_le l) h1 h2
theorem fs_mask (l : List UInt8) : fnd (fsM l).2 = !(maskM (fsM l).2.1 == 0 && maskM (fsM l).2.2 == 0) := by
  obtain ⟨h1, h2⟩ := fst_cel (snC l) (snW l) [] 0 (opens (snC l))
  exact fnd_mask (sn_le l) h1 h2

set_option maxRecDepth 100000 in
set_option maxHeartbeats 3200000 in
theorem iFirstPair_any (l : List UInt8) (w : World) (hM : HasMax w) (hl : l.length ≤ 1048576) :
    Calls Tryd.prog 17 #[.string ⟨l.toArray⟩] w fun e w' => e = .returned (.tuple #[.int .i64 ((fpM l).1 : Nat), .int .i64 ((fpM l).2.1 : Nat), .bool (fnd (fpM l).2.2)]) ∧ Below w.heap.size w w' := by
  have HRS := Lib.hid (readSound_any l w hM hl)
  have HOC := Lib.hid (fun w => openCells_any (snW l) (snH l) (snC l) w (sn_pos l) (sn_le l))
  have HFP := Lib.hid (fun B a cap w h => firstPair_any (snW l) (snC l) (sn_le l) B a cap w h)
  have hfm := fp_mask l
  have HFM : Hid (fpM l = fstP (snC l) (snW l) (opens (snC l)) (opens (snC l))) := rfl
  rw [← HFM.out] at HFP
  unfold ntV fdV at *
  generalize fpM l = F at *
  obtain ⟨x, y, P⟩ := F
  simp only at hfm HFP ⊢
  generalize hm1 : maskM P.1 = m1 at *
  generalize hm2 : maskM P.2 = m2 at *
  clear hm1 hm2 HFM
  have hcase : (m1 = 0 ∧ m2 = 0 ∧ fnd P = false) ∨ (¬ ((m1 : Int) = 0) ∧ fnd P = true) ∨ (m1 = 0 ∧ ¬ ((m2 : Int) = 0) ∧ fnd P = true) := by
    by_cases h1 : m1 = 0
    · by_cases h2 : m2 = 0
      · exact .inl ⟨h1, h2, by rw [hfm, h1, h2]; rfl⟩
      · exact .inr (.inr ⟨h1, by omega, by rw [hfm]; simp [h2]⟩)
    · exact .inr (.inl ⟨by omega, by rw [hfm]; simp [h1]⟩)
  clear hfm
  rcases hcase with ⟨rfl, rfl, hf⟩ | ⟨n1, hf⟩ | ⟨rfl, n2, hf⟩
  · rw [hf]
    go_enter Tryd.func17, Tryd.ntmps17
    go_wp2_with fail
    refine HRS.out.mono ?_
    rintro e w1 ⟨rfl, hb1⟩
    have hb1a := hb1.alloc hb1.size (.cells #[.int .i64 (snW l), .int .i64 (snH l), .string ⟨(snC l).toArray⟩] 41)
    go_wp2_with fail
    refine (HOC.out _).mono ?_
    rintro e w2 ⟨a, cap, rfl, hown, hb2⟩
    have hb02 := hb1a.trans (hb2.mono hb1a.size)
    go_wp2_with fail
    refine (HFP.out _ _ _ _ hown).mono ?_
    rintro e w3 ⟨rfl, hb3⟩
    have hb03 := hb02.trans (hb3.mono hb02.size)
    have hX := heap_alloc_new w3 (.cells #[.int .u64 0, .int .u64 0] 55)
    have hb04 := hb03.alloc hb03.size (.cells #[.int .u64 0, .int .u64 0] 55)
    go_wp2_with fail
    generalize w3.alloc (.cells #[.int .u64 0, .int .u64 0] 55) = w4 at *
    have x0 : w4.cell? ⟨w3.heap.size, 0, none⟩ = some (.int .u64 0) := by rw [cell_of_block hX]; rfl
    have x1 : w4.cell? ⟨w3.heap.size, 1, none⟩ = some (.int .u64 0) := by rw [cell_of_block hX]; rfl
    go_quiet (fail)
    go_wp2_with fail
    go_ret3
    exact ⟨rfl, below_drewN hb04 _⟩
  · have n1' : ((m1 : Int) == 0) = false := by simpa using n1
    rw [hf]
    go_enter Tryd.func17, Tryd.ntmps17
    go_wp2_with fail
    refine HRS.out.mono ?_
    rintro e w1 ⟨rfl, hb1⟩
    have hb1a := hb1.alloc hb1.size (.cells #[.int .i64 (snW l), .int .i64 (snH l), .string ⟨(snC l).toArray⟩] 41)
    go_wp2_with fail
    refine (HOC.out _).mono ?_
    rintro e w2 ⟨a, cap, rfl, hown, hb2⟩
    have hb02 := hb1a.trans (hb2.mono hb1a.size)
    go_wp2_with fail
    refine (HFP.out _ _ _ _ hown).mono ?_
    rintro e w3 ⟨rfl, hb3⟩
    have hb03 := hb02.trans (hb3.mono hb02.size)
    have hX := heap_alloc_new w3 (.cells #[.int .u64 m1, .int .u64 m2] 55)
    have hb04 := hb03.alloc hb03.size (.cells #[.int .u64 m1, .int .u64 m2] 55)
    go_wp2_with fail
    generalize w3.alloc (.cells #[.int .u64 m1, .int .u64 m2] 55) = w4 at *
    have x0 : w4.cell? ⟨w3.heap.size, 0, none⟩ = some (.int .u64 m1) := by rw [cell_of_block hX]; rfl
    have x1 : w4.cell? ⟨w3.heap.size, 1, none⟩ = some (.int .u64 m2) := by rw [cell_of_block hX]; rfl
    go_quiet (fail)
    go_wp2_with fail
    go_ret3
    exact ⟨rfl, below_drewN hb04 _⟩
  · have n2' : ((m2 : Int) == 0) = false := by simpa using n2
    rw [hf]
    go_enter Tryd.func17, Tryd.ntmps17
    go_wp2_with fail
    refine HRS.out.mono ?_
    rintro e w1 ⟨rfl, hb1⟩
    have hb1a := hb1.alloc hb1.size (.cells #[.int .i64 (snW l), .int .i64 (snH l), .string ⟨(snC l).toArray⟩] 41)
    go_wp2_with fail
    refine (HOC.out _).mono ?_
    rintro e w2 ⟨a, cap, rfl, hown, hb2⟩
    have hb02 := hb1a.trans (hb2.mono hb1a.size)
    go_wp2_with fail
    refine (HFP.out _ _ _ _ hown).mono ?_
    rintro e w3 ⟨rfl, hb3⟩
    have hb03 := hb02.trans (hb3.mono hb02.size)
    have hX := heap_alloc_new w3 (.cells #[.int .u64 0, .int .u64 m2] 55)
    have hb04 := hb03.alloc hb03.size (.cells #[.int .u64 0, .int .u64 m2] 55)
    go_wp2_with fail
    generalize w3.alloc (.cells #[.int .u64 0, .int .u64 m2] 55) = w4 at *
    have x0 : w4.cell? ⟨w3.heap.size, 0, none⟩ = some (.int .u64 0) := by rw [cell_of_block hX]; rfl
    have x1 : w4.cell? ⟨w3.heap.size, 1, none⟩ = some (.int .u64 m2) := by rw [cell_of_block hX]; rfl
    go_quiet (fail)
    go_wp2_with fail
    go_ret3
    exact ⟨rfl, below_drewN hb04 _⟩
end Go.Proofs.YthlbplmghjaeoacDoor
