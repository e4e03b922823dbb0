/- Notes: FirstSingle by the program. -/
import Derived.Test.YthlbplmghjaeoacDoorGCR
import Derived.Outline
namespace Go.Proofs.YthlbplmghjaeoacDoor
open Go.RowKit

theorem singleRule_own (w : World) :
    Calls Tryd.prog 34 #[] w fun e w' => ∃ g, e = .returned (.func (.func 56) #[] #[.pointer (some ⟨g, 0, none⟩)]) ∧ w'.heap[g]? = some (.cells #[.int .i64 0, .int .i64 0, .int .u64 ((maskM [] : Nat) : Int)] 51 (0, 0)) ∧ Below w.heap.size w w' := by
  refine (singleRule_any w).mono ?_
  rintro e w' ⟨rfl, rfl⟩
  exact ⟨_, rfl, heap_alloc_new w _, (Below.refl _ _).alloc (Nat.le_refl _) _⟩
theorem Below.setCell2 {B g : Nat} {w w' : World} (h : Below B w w') (hg : B ≤ g) (v0 v1 : Value) : Below B w ((w'.setCell ⟨g, 0, none⟩ v0).setCell ⟨g, 1, none⟩ v1) :=
  h.trans (((Below.set 0 _).trans (Below.set 1 _)).mono hg)

set_option maxRecDepth 100000 in
set_option maxHeartbeats 3200000 in
theorem iFirstSingle_any (l : List UInt8) (w : World) (hM : HasMax w) (hl : l.length ≤ 1048576) :
    Calls Tryd.prog 15 #[.string ⟨l.toArray⟩] w fun e w' => e = .returned (.tuple #[.int .i64 ((fsM l).1 : Nat), .bool (fnd (fsM l).2)]) ∧ Below w.heap.size w w' := by
  have HRS := Lib.hid (readSound_any l w hM hl)
  have HOC := Lib.hid (fun w => openCells_any (snW l) (snH l) (snC l) w (sn_pos l) (sn_le l))
  have HFI := Lib.hid (fun g B a cap w hG ho => first_any (snW l) (snC l) (sn_le l) [] (Cel.nil _) 0 0 ⟨by omega, by omega⟩ g B a cap w hG ho)
  have hfm := fs_mask l
  have HFM : Hid (fsM l = fstM (snC l) (snW l) [] 0 (opens (snC l))) := rfl
  rw [← HFM.out] at HFI
  unfold ntV fdV at *
  generalize fsM l = F at *
  obtain ⟨x, P⟩ := F
  simp only at hfm HFI ⊢
  generalize hm1 : maskM P.1 = m1 at *
  generalize hm2 : maskM P.2 = m2 at *
  clear hm1 hm2 HFM
  generalize snW l = W at *
  generalize snH l = H at *
  generalize snC l = cells at *
  go_enter Tryd.func15, Tryd.ntmps15
  go_wp2_with fail
  refine HRS.out.mono ?_
  rintro e w1 ⟨rfl, hb1⟩
  have hb1a := hb1.alloc hb1.size (.cells #[.int .i64 W, .int .i64 H, .string ⟨cells.toArray⟩] 41)
  have hN1 := heap_alloc_new w1 (.cells #[.int .i64 W, .int .i64 H, .string ⟨cells.toArray⟩] 41)
  go_wp2_with fail
  generalize w1.alloc (.cells #[.int .i64 W, .int .i64 H, .string ⟨cells.toArray⟩] 41) = w2 at *
  have n0 : w2.cell? ⟨w1.heap.size, 0, none⟩ = some (.int .i64 W) := by rw [cell_of_block hN1]; rfl
  have n1 : w2.cell? ⟨w1.heap.size, 1, none⟩ = some (.int .i64 H) := by rw [cell_of_block hN1]; rfl
  have n2 : w2.cell? ⟨w1.heap.size, 2, none⟩ = some (.string ⟨cells.toArray⟩) := by rw [cell_of_block hN1]; rfl
  have hnl := block_lt hN1
  have hA : ∀ w', Below w2.heap.size w2 w' → w'.cell? ⟨w1.heap.size, 0, none⟩ = some (.int .i64 W) ∧ w'.cell? ⟨w1.heap.size, 1, none⟩ = some (.int .i64 H) ∧ w'.cell? ⟨w1.heap.size, 2, none⟩ = some (.string ⟨cells.toArray⟩) := fun w' h => ⟨(h.cell (p := ⟨w1.heap.size, 0, none⟩) hnl).trans n0, (h.cell (p := ⟨w1.heap.size, 1, none⟩) hnl).trans n1, (h.cell (p := ⟨w1.heap.size, 2, none⟩) hnl).trans n2⟩
  have HA := Lib.hid hA
  have hdr : Below w2.heap.size w2 w2.drew := toDrew (Below.refl _ w2)
  have hal := fun o => toDrew ((Below.refl _ w2).alloc (Nat.le_refl _) o)
  have HZ : Hid (∀ (w : World), (w.alloc (.cells #[.int .u64 0, .int .u64 0] 55)).heap[w.heap.size]? = some (.cells #[.int .u64 0, .int .u64 0] 55 (0, 0))) := fun w => heap_alloc_new w _
  clear hA hN1 hb1
  go_cut [6, 7] (fun s6 s7 wx => ∃ V : Nat, s6 = .int .i64 x ∧ s7 = .pointer (some ⟨V, 0, none⟩) ∧ Hid (wx.heap[V]? = some (.cells #[.int .u64 m1, .int .u64 m2] 55 (0, 0))) ∧ Below w2.heap.size w2 wx)
  case first =>
    go_region_held3 (fun w' => w'.cell? ⟨w1.heap.size, 0, none⟩ = some (.int .i64 W) ∧ w'.cell? ⟨w1.heap.size, 1, none⟩ = some (.int .i64 H) ∧ w'.cell? ⟨w1.heap.size, 2, none⟩ = some (.string ⟨cells.toArray⟩))
      (first | with_reducible exact HA.out _ hdr | with_reducible exact HA.out _ (hal _) | with_reducible exact HA.out _ hbC | with_reducible exact HA.out _ hbB | with_reducible exact HA.out _ hbA | with_reducible exact HA.out _ (hbC.alloc hbC.size _) | with_reducible exact HA.out _ (hbB.alloc hbB.size _) | with_reducible exact HA.out _ (hbA.alloc hbA.size _) | exact HA.out _ (Below.setCell2 hbC (by have := hbA.size; have := hbB.size; omega) _ _))
      (first
        | (go_at_call 34; refine (singleRule_own _).mono ?_; rintro e w3 ⟨g, rfl, hG3, hb3⟩; have hbA : Below w2.heap.size w2 w3 := (by first | exact hbB.trans (hb3.mono hbB.size) | exact ofDrew hb3 | exact (hal _).trans (hb3.mono (by simp)) | exact (hbB.alloc hbB.size _).trans (hb3.mono (by have := hbB.size; simp; omega))); have HGX := Lib.hid (fun (X : World) (h : Below w3.heap.size w3 X) => (h.block g (block_lt hG3)).trans hG3); first | (have hVa := (hb3.block _ hVlb).trans HVb.out; have hv0 := cell_of_block hVa 0; have hv1 := cell_of_block hVa 1; simp at hv0 hv1; have hz0 := frozen_of_block hVa 0; have hz1 := frozen_of_block hVa 1; have HVa := Lib.hid hVa; have hVla := block_lt hVa; clear hVa) | (have hVa := (hb3.block _ (by simp)).trans (HZ.out _); have hv0 := cell_of_block hVa 0; have hv1 := cell_of_block hVa 1; simp at hv0 hv1; have hz0 := frozen_of_block hVa 0; have hz1 := frozen_of_block hVa 1; have HVa := Lib.hid hVa; have hVla := block_lt hVa; clear hVa) | skip)
        | (go_at_call 36; refine (HOC.out _).mono ?_; rintro e w4 ⟨a, cap, rfl, hown, hb4⟩; have hbB : Below w2.heap.size w2 w4 := (by first | exact hbA.trans (hb4.mono hbA.size) | exact ofDrew hb4 | exact (hal _).trans (hb4.mono (by simp)) | exact (hbA.alloc hbA.size _).trans (hb4.mono (by have := hbA.size; simp; omega))); have HOX := Lib.hid (fun (X : World) (h : Below w4.heap.size w4 X) => hown.later h); first | (have hVb := (hb4.block _ hVla).trans HVa.out; have hv0 := cell_of_block hVb 0; have hv1 := cell_of_block hVb 1; simp at hv0 hv1; have hz0 := frozen_of_block hVb 0; have hz1 := frozen_of_block hVb 1; have HVb := Lib.hid hVb; have hVlb := block_lt hVb; clear hVb) | (have hVb := (hb4.block _ (by simp)).trans (HZ.out _); have hv0 := cell_of_block hVb 0; have hv1 := cell_of_block hVb 1; simp at hv0 hv1; have hz0 := frozen_of_block hVb 0; have hz1 := frozen_of_block hVb 1; have HVb := Lib.hid hVb; have hVlb := block_lt hVb; clear hVb) | skip)
        | (go_at_call 35; refine (HFI.out g _ a cap _ (HGX.out _ (by first | exact Below.refl _ _ | exact hb4 | exact (Below.refl _ _).alloc (Nat.le_refl _) _ | exact hb4.alloc hb4.size _ | exact ((Below.refl _ w3).alloc (Nat.le_refl _) _).trans (hb4.mono (by simp)))) (HOX.out _ (by first | exact Below.refl _ _ | exact hb3 | exact (Below.refl _ _).alloc (Nat.le_refl _) _ | exact hb3.alloc hb3.size _ | exact ((Below.refl _ w4).alloc (Nat.le_refl _) _).trans (hb3.mono (by simp))))).mono ?_; rintro e w5 ⟨rfl, hb5⟩; have hbC : Below w2.heap.size w2 w5 := (by first | exact hbB.trans (hb5.mono hbB.size) | exact hbA.trans (hb5.mono hbA.size) | exact (hbB.alloc hbB.size _).trans (hb5.mono (by have := hbB.size; simp; omega)) | exact (hbA.alloc hbA.size _).trans (hb5.mono (by have := hbA.size; simp; omega))); first | (have hVc := (hb5.block _ hVlb).trans HVb.out; have hv0 := cell_of_block hVc 0; have hv1 := cell_of_block hVc 1; simp at hv0 hv1; have hz0 := frozen_of_block hVc 0; have hz1 := frozen_of_block hVc 1; have HVc := Lib.hid hVc; have hVlc := block_lt hVc; clear hVc) | (have hVc := (hb5.block _ hVla).trans HVa.out; have hv0 := cell_of_block hVc 0; have hv1 := cell_of_block hVc 1; simp at hv0 hv1; have hz0 := frozen_of_block hVc 0; have hz1 := frozen_of_block hVc 1; have HVc := Lib.hid hVc; have hVlc := block_lt hVc; clear hVc) | (have hVc := (hb5.block _ (by simp)).trans (HZ.out _); have hv0 := cell_of_block hVc 0; have hv1 := cell_of_block hVc 1; simp at hv0 hv1; have hz0 := frozen_of_block hVc 0; have hz1 := frozen_of_block hVc 1; have HVc := Lib.hid hVc; have hVlc := block_lt hVc; clear hVc) | skip))
    all_goals
      go_wp2_with fail
      go_meet
      first
        | exact ⟨w5.heap.size, rfl, rfl, heap_alloc_new w5 _, hbC.alloc hbC.size _⟩
        | (have b2 := block_set (block_set HVc.out 0 (.int .u64 m1)) 1 (.int .u64 m2)
           simp at b2
           exact ⟨_, rfl, rfl, b2, Below.setCell2 hbC (by have := hbA.size; have := hbB.size; omega) _ _⟩)
  case rest =>
    obtain ⟨V, rfl, rfl, hV, hbx⟩ := hcut
    have x0 : wc.cell? ⟨V, 0, none⟩ = some (.int .u64 m1) := by rw [cell_of_block hV.out]; rfl
    have x1 : wc.cell? ⟨V, 1, none⟩ = some (.int .u64 m2) := by rw [cell_of_block hV.out]; rfl
    have hvl := block_lt hV.out
    have hbw := hb1a.trans (hbx.mono hb1a.size)
    have hcase : (m1 = 0 ∧ m2 = 0 ∧ fnd P = false) ∨ (¬ ((m1 : Int) = 0) ∧ fnd P = true) ∨ (m1 = 0 ∧ ¬ ((m2 : Int) = 0) ∧ fnd P = true) := by
      by_cases h1 : m1 = 0
      · by_cases h2 : m2 = 0
        · exact .inl ⟨h1, h2, by rw [hfm, h1, h2]; rfl⟩
        · exact .inr (.inr ⟨h1, by omega, by rw [hfm]; simp [h2]⟩)
      · exact .inr (.inl ⟨by omega, by rw [hfm]; simp [h1]⟩)
    clear hfm hdr hal n0 n1 n2
    rcases hcase with ⟨rfl, rfl, hf⟩ | ⟨n1, hf⟩ | ⟨rfl, n2, hf⟩
    · have HF := Lib.hid hf
      clear hf
      go_wp2_with fail
      go_quiet (fail)
      go_wp2_with fail
      go_ret2
      exact ⟨by rw [HF.out]; rfl, below_drewN hbw _⟩
    · have n1' : ((m1 : Int) == 0) = false := by simpa using n1
      have HF := Lib.hid hf
      clear hf
      go_wp2_with fail
      go_quiet (fail)
      go_wp2_with fail
      go_ret2
      exact ⟨by rw [HF.out]; rfl, below_drewN hbw _⟩
    · have n2' : ((m2 : Int) == 0) = false := by simpa using n2
      have HF := Lib.hid hf
      clear hf
      go_wp2_with fail
      go_quiet (fail)
      go_wp2_with fail
      go_ret2
      exact ⟨by rw [HF.out]; rfl, below_drewN hbw _⟩
end Go.Proofs.YthlbplmghjaeoacDoor
