/- Notes: a step by the rules, by the program. -/
import Derived.Test.YthlbplmghjaeoacDoorCT
import Derived.Outline
namespace Go.Proofs.YthlbplmghjaeoacDoor
open Go.RowKit

/-- What a step finds; the cells behind it. -/
def stF (cells : List UInt8) (W : Nat) (p : Bool) : List Nat × List Nat :=
  if (!fnd (fstM cells W [] 0 (opens cells)).2 && p) = true then (fstP cells W (opens cells) (opens cells)).2.2 else (fstM cells W [] 0 (opens cells)).2
def apM (cells : List UInt8) (f : List Nat × List Nat) : List UInt8 := noteL (noteL cells f.1 42) f.2 46
theorem stF_cel (cells : List UInt8) (W : Nat) (p : Bool) : Cel cells.length (stF cells W p).1 ∧ Cel cells.length (stF cells W p).2 := by
  unfold stF
  split
  · exact fstP_cel _ _ _ _
  · exact fst_cel _ _ _ _ _
theorem apM_length (cells : List UInt8) (f : List Nat × List Nat) : (apM cells f).length = cells.length := by rw [apM, noteL_length, noteL_length]

set_option maxRecDepth 100000 in
set_option maxHeartbeats 3200000 in
theorem step_any (W H : Nat) (cells : List UInt8) (p : Bool) (w : World) (hT : HasTab w) (hW : 0 < cells.length → 1 ≤ W) (hn : cells.length ≤ 64) :
    Calls Tryd.prog 39 #[ntV W H cells, .bool p] w fun e w' => e = .returned (ntV W H (apM cells (stF cells W p))) ∧ Below w.heap.size w w' := by
  have HOC := Lib.hid (fun w => openCells_any W H cells w hW hn)
  have HFI := Lib.hid (fun g B a cap w hG ho => first_any W cells hn [] (Cel.nil _) 0 0 ⟨by omega, by omega⟩ g B a cap w hG ho)
  have HFP := Lib.hid (fun B a cap w ho => firstPair_any W cells hn B a cap w ho)
  have hc1 := fst_cel cells W [] 0 (opens cells)
  have hc2 := fstP_cel cells W (opens cells) (opens cells)
  have hfm := fnd_mask hn hc1.1 hc1.2
  have HW1 := Lib.hid (fun w h => with_any W H cells (fstM cells W [] 0 (opens cells)).2.1 (fstM cells W [] 0 (opens cells)).2.2 w h hn hc1.1 hc1.2)
  have HW2 := Lib.hid (fun w h => with_any W H cells (fstP cells W (opens cells) (opens cells)).2.2.1 (fstP cells W (opens cells) (opens cells)).2.2.2 w h hn hc2.1 hc2.2)
  have HST : Hid (apM cells (stF cells W p) = if (!fnd (fstM cells W [] 0 (opens cells)).2 && p) = true then noteL (noteL cells (fstP cells W (opens cells) (opens cells)).2.2.1 42) (fstP cells W (opens cells) (opens cells)).2.2.2 46 else noteL (noteL cells (fstM cells W [] 0 (opens cells)).2.1 42) (fstM cells W [] 0 (opens cells)).2.2 46) := by
    rw [Hid, stF]
    split <;> rfl
  unfold ntV fdV at *
  generalize apM cells (stF cells W p) = RES at *
  generalize noteL (noteL cells (fstP cells W (opens cells) (opens cells)).2.2.1 42) (fstP cells W (opens cells) (opens cells)).2.2.2 46 = R2 at *
  generalize noteL (noteL cells (fstM cells W [] 0 (opens cells)).2.1 42) (fstM cells W [] 0 (opens cells)).2.2 46 = R1 at *
  generalize fstP cells W (opens cells) (opens cells) = G at *
  generalize fstM cells W [] 0 (opens cells) = F at *
  obtain ⟨x, P⟩ := F
  obtain ⟨y, z, Q⟩ := G
  simp only at hfm HFI HFP HW1 HW2 HST
  clear hc1 hc2
  generalize maskM P.1 = m1 at *
  generalize maskM P.2 = m2 at *
  generalize maskM Q.1 = k1 at *
  generalize maskM Q.2 = k2 at *
  have hb0 : Below w.heap.size w (w.alloc (.cells #[.int .i64 W, .int .i64 H, .string ⟨cells.toArray⟩] 41)) := (Below.refl _ _).alloc (Nat.le_refl _) _
  have hb1 := hb0.alloc hb0.size (.cells #[.int .i64 0, .int .i64 0, .string ⟨#[]⟩] 41)
  have hN1 := heap_alloc_new w (.cells #[.int .i64 W, .int .i64 H, .string ⟨cells.toArray⟩] 41)
  have hN2 := (Below.heap_alloc _ (.cells #[.int .i64 0, .int .i64 0, .string ⟨#[]⟩] 41) _ (block_lt hN1)).trans hN1
  have hR2 := heap_alloc_new (w.alloc (.cells #[.int .i64 W, .int .i64 H, .string ⟨cells.toArray⟩] 41)) (.cells #[.int .i64 0, .int .i64 0, .string ⟨#[]⟩] 41)
  rw [show (w.alloc (.cells #[.int .i64 W, .int .i64 H, .string ⟨cells.toArray⟩] 41)).heap.size = w.heap.size + 1 by simp] at hR2
  have hs2 : ((w.alloc (.cells #[.int .i64 W, .int .i64 H, .string ⟨cells.toArray⟩] 41)).alloc (.cells #[.int .i64 0, .int .i64 0, .string ⟨#[]⟩] 41)).heap.size = w.heap.size + 2 := by simp
  clear hb0 hN1
  have hcase : (m1 = 0 ∧ m2 = 0 ∧ fnd P = false) ∨ (¬ ((m1 : Int) = 0) ∧ fnd P = true) ∨ (m1 = 0 ∧ ¬ ((m2 : Int) = 0) ∧ fnd P = true) := by
    by_cases h1 : m1 = 0
    · by_cases h2 : m2 = 0
      · exact .inl ⟨h1, h2, by rw [hfm, h1, h2]; rfl⟩
      · exact .inr (.inr ⟨h1, by omega, by rw [hfm]; simp [h2]⟩)
    · exact .inr (.inl ⟨by omega, by rw [hfm]; simp [h1]⟩)
  clear hfm
  have fin : ∀ (RS : List UInt8) (we : World) (a : Act) (t0 t1 t2 t3 : Value) (r : List Value), RES = RS → Below w.heap.size w we → we.heap[w.heap.size + 1]? = some (.cells #[.int .i64 W, .int .i64 H, .string ⟨RS.toArray⟩] 41 (0, 0)) → a = { tmps := (t0 :: t1 :: t2 :: t3 :: .pointer (some ⟨w.heap.size + 1, 0, none⟩) :: r).toArray, defers := [] } →
      bodyPost Tryd.prog Tryd.f39 (fun e w' => e = .returned (.agg #[.int .i64 W, .int .i64 H, .string ⟨RES.toArray⟩]) ∧ Below w.heap.size w w') .ret a we := by
    intro RS we a t0 t1 t2 t3 r h1 h2 h3 h4
    subst h4
    subst h1
    have r0 := cell_of_block h3 0
    have r1 := cell_of_block h3 1
    have r2 := cell_of_block h3 2
    simp at r0 r1 r2
    exact bodyPost_ret (v := .agg #[.int .i64 W, .int .i64 H, .string ⟨RES.toArray⟩]) (by simp [results, Tryd.results39, go_sem, r0, r1, r2]) rfl ⟨rfl, h2⟩
  have FIN := Lib.hid fin
  clear fin
  rcases hcase with ⟨rfl, rfl, hf⟩ | ⟨n1', hf⟩ | ⟨rfl, n2', hf⟩
  · rw [hf] at HST
    clear hf
    cases p with
    | false =>
      have HR : Hid (RES = R1) := HST.out
      clear HST HW2 HFP
      go_enter Tryd.func39, Tryd.ntmps39
      go_wp2_with fail
      generalize (w.alloc (.cells #[.int .i64 W, .int .i64 H, .string ⟨cells.toArray⟩] 41)).alloc (.cells #[.int .i64 0, .int .i64 0, .string ⟨#[]⟩] 41) = w0 at *
      refine (HOC.out _).mono ?_
      rintro e w1 ⟨a, cap, rfl, hown, hb2⟩
      have hbA := hb1.trans (hb2.mono (by omega))
      have hNA := (hb2.block _ (by omega)).trans hN2
      have hRA := (hb2.block _ (by omega)).trans hR2
      have s1 := hb2.size
      clear hb2 hN2 hR2
      go_wp2_with fail
      refine (singleRule_own _).mono ?_
      rintro e w2 ⟨g, rfl, hG, hb3⟩
      have hbB := hbA.trans (hb3.mono (by omega))
      have s2 := hb3.size
      have hNB := (hb3.block _ (by omega)).trans hNA
      have hRB := (hb3.block _ (by omega)).trans hRA
      have hown2 := hown.later hb3
      have hFX := HFI.out g _ a cap w2 hG hown2
      clear hb3 hNA hRA hbA
      go_wp2_with fail
      refine hFX.mono ?_
      rintro e w3 ⟨rfl, hb4⟩
      have hbC := hbB.trans (hb4.mono (by omega))
      have s3 := hb4.size
      have hNC := (hb4.block _ (by omega)).trans hNB
      have hRC := (hb4.block _ (by omega)).trans hRB
      have hown3 := hown2.later hb4
      have hbD := hbC.alloc hbC.size (.cells #[.int .u64 0, .int .u64 0] 55)
      have hVD := heap_alloc_new w3 (.cells #[.int .u64 0, .int .u64 0] 55)
      have hND := (Below.heap_alloc w3 (.cells #[.int .u64 0, .int .u64 0] 55) _ (block_lt hNC)).trans hNC
      have hRD := (Below.heap_alloc w3 (.cells #[.int .u64 0, .int .u64 0] 55) _ (block_lt hRC)).trans hRC
      have hownD := hown3.later ((Below.refl _ w3).alloc (Nat.le_refl _) (.cells #[.int .u64 0, .int .u64 0] 55))
      have hsD : w3.heap.size < (w3.alloc (.cells #[.int .u64 0, .int .u64 0] 55)).heap.size := by simp
      have n0 := cell_of_block hND 0
      have n1 := cell_of_block hND 1
      have n2 := cell_of_block hND 2
      simp at n0 n1 n2
      have HWX := Lib.hid (HW1.out _ (hT.later hbD))
      have HRD := Lib.hid hRD
      have hrl := block_lt hRD
      clear hb4 hNB hRB hbB hFX hND hRD hNC hRC hVD hownD hown3 hown2
      go_wp2_with fail
      refine HWX.out.mono ?_
      rintro e w5 ⟨rfl, hb5⟩
      have hR5 := (hb5.block _ hrl).trans HRD.out
      have r0 := cell_of_block hR5 0
      have r1 := cell_of_block hR5 1
      have r2 := cell_of_block hR5 2
      simp at r0 r1 r2
      have q0 := frozen_of_block hR5 0
      have q1 := frozen_of_block hR5 1
      have q2 := frozen_of_block hR5 2
      have HR5 := Lib.hid hR5
      have hrl5 := block_lt hR5
      have HB5 := Lib.hid (hbD.trans (hb5.mono hbD.size))
      clear hR5 hb5
      go_wp2_with fail
      have b3 := block_set (block_set (block_set HR5.out 0 (.int .i64 W)) 1 (.int .i64 H)) 2 (.string ⟨R1.toArray⟩)
      simp at b3
      exact FIN.out R1 _ _ _ _ _ _ _ HR.out (HB5.out.trans ((((Below.set 0 _).trans (Below.set 1 _)).trans (Below.set 2 _)).mono (by omega))) b3 rfl
    | true =>
      have HR : Hid (RES = R2) := HST.out
      clear HST HW1
      go_enter Tryd.func39, Tryd.ntmps39
      go_wp2_with fail
      generalize (w.alloc (.cells #[.int .i64 W, .int .i64 H, .string ⟨cells.toArray⟩] 41)).alloc (.cells #[.int .i64 0, .int .i64 0, .string ⟨#[]⟩] 41) = w0 at *
      refine (HOC.out _).mono ?_
      rintro e w1 ⟨a, cap, rfl, hown, hb2⟩
      have hbA := hb1.trans (hb2.mono (by omega))
      have hNA := (hb2.block _ (by omega)).trans hN2
      have hRA := (hb2.block _ (by omega)).trans hR2
      have s1 := hb2.size
      clear hb2 hN2 hR2
      go_wp2_with fail
      refine (singleRule_own _).mono ?_
      rintro e w2 ⟨g, rfl, hG, hb3⟩
      have hbB := hbA.trans (hb3.mono (by omega))
      have s2 := hb3.size
      have hNB := (hb3.block _ (by omega)).trans hNA
      have hRB := (hb3.block _ (by omega)).trans hRA
      have hown2 := hown.later hb3
      have hFX := HFI.out g _ a cap w2 hG hown2
      clear hb3 hNA hRA hbA
      go_wp2_with fail
      refine hFX.mono ?_
      rintro e w3 ⟨rfl, hb4⟩
      have hbC := hbB.trans (hb4.mono (by omega))
      have s3 := hb4.size
      have hNC := (hb4.block _ (by omega)).trans hNB
      have hRC := (hb4.block _ (by omega)).trans hRB
      have hown3 := hown2.later hb4
      have hbD := hbC.alloc hbC.size (.cells #[.int .u64 0, .int .u64 0] 55)
      have hVD := heap_alloc_new w3 (.cells #[.int .u64 0, .int .u64 0] 55)
      have hND := (Below.heap_alloc w3 (.cells #[.int .u64 0, .int .u64 0] 55) _ (block_lt hNC)).trans hNC
      have hRD := (Below.heap_alloc w3 (.cells #[.int .u64 0, .int .u64 0] 55) _ (block_lt hRC)).trans hRC
      have hownD := hown3.later ((Below.refl _ w3).alloc (Nat.le_refl _) (.cells #[.int .u64 0, .int .u64 0] 55))
      have hsD : w3.heap.size < (w3.alloc (.cells #[.int .u64 0, .int .u64 0] 55)).heap.size := by simp
      have HFPX := Lib.hid (HFP.out _ a cap _ hownD)
      have v0 := cell_of_block hVD 0
      have v1 := cell_of_block hVD 1
      simp at v0 v1
      have HND := Lib.hid hND
      have HRD := Lib.hid hRD
      have HVD := Lib.hid hVD
      have hnl := block_lt hNC
      have hrl := block_lt hRC
      clear hb4 hNB hRB hbB hFX hND hRD hNC hRC hVD hownD hown3 hown2
      go_wp2_with fail
      refine HFPX.out.mono ?_
      rintro e w4 ⟨rfl, hb6⟩
      have s6 := hb6.size
      have hVE := (hb6.block _ hsD).trans HVD.out
      have hNE := (hb6.block _ (by omega)).trans HND.out
      have hRE := (hb6.block _ (by omega)).trans HRD.out
      have v0 := cell_of_block hVE 0
      have v1 := cell_of_block hVE 1
      simp at v0 v1
      have z0 := frozen_of_block hVE 0
      have z1 := frozen_of_block hVE 1
      have hbE := hbD.trans (hb6.mono hbD.size)
      have hVF := block_set (block_set hVE 0 (.int .u64 k1)) 1 (.int .u64 k2)
      simp at hVF
      have hNF := ((blockAwayV (w := w4.setCell ⟨w3.heap.size, 0, none⟩ (.int .u64 k1)) (show w.heap.size ≠ w3.heap.size by omega) 1 (.int .u64 k2)).trans (blockAwayV (show w.heap.size ≠ w3.heap.size by omega) 0 (.int .u64 k1))).trans hNE
      have hRF := ((blockAwayV (w := w4.setCell ⟨w3.heap.size, 0, none⟩ (.int .u64 k1)) (show w.heap.size + 1 ≠ w3.heap.size by omega) 1 (.int .u64 k2)).trans (blockAwayV (show w.heap.size + 1 ≠ w3.heap.size by omega) 0 (.int .u64 k1))).trans hRE
      have hbF : Below w.heap.size w ((w4.setCell ⟨w3.heap.size, 0, none⟩ (.int .u64 k1)).setCell ⟨w3.heap.size, 1, none⟩ (.int .u64 k2)) := hbE.trans (((Below.set 0 _).trans (Below.set 1 _)).mono (by omega))
      have n0 : ((w4.setCell ⟨w3.heap.size, 0, none⟩ (.int .u64 k1)).setCell ⟨w3.heap.size, 1, none⟩ (.int .u64 k2)).cell? ⟨w.heap.size, 0, none⟩ = some (.int .i64 W) := by rw [cell_of_block hNF]; rfl
      have n1 : ((w4.setCell ⟨w3.heap.size, 0, none⟩ (.int .u64 k1)).setCell ⟨w3.heap.size, 1, none⟩ (.int .u64 k2)).cell? ⟨w.heap.size, 1, none⟩ = some (.int .i64 H) := by rw [cell_of_block hNF]; rfl
      have n2 : ((w4.setCell ⟨w3.heap.size, 0, none⟩ (.int .u64 k1)).setCell ⟨w3.heap.size, 1, none⟩ (.int .u64 k2)).cell? ⟨w.heap.size, 2, none⟩ = some (.string ⟨cells.toArray⟩) := by rw [cell_of_block hNF]; rfl
      have f0 : ((w4.setCell ⟨w3.heap.size, 0, none⟩ (.int .u64 k1)).setCell ⟨w3.heap.size, 1, none⟩ (.int .u64 k2)).cell? ⟨w3.heap.size, 0, none⟩ = some (.int .u64 k1) := by rw [cell_of_block hVF]; rfl
      have f1 : ((w4.setCell ⟨w3.heap.size, 0, none⟩ (.int .u64 k1)).setCell ⟨w3.heap.size, 1, none⟩ (.int .u64 k2)).cell? ⟨w3.heap.size, 1, none⟩ = some (.int .u64 k2) := by rw [cell_of_block hVF]; rfl
      have e0 := cell_of_block hNE 0
      have e1 := cell_of_block hNE 1
      have e2 := cell_of_block hNE 2
      simp at e0 e1 e2
      have HWX := Lib.hid (HW2.out _ (hT.later hbF))
      have HRF := Lib.hid hRF
      have hrlF := block_lt hRF
      have hnlE := block_lt hNE
      have hvlE := block_lt hVE
      have hne1 : ¬ w.heap.size = w3.heap.size := by omega
      have HBF := Lib.hid hbF
      clear hVE hNE hRE hbE hVF hNF hRF hbF hb6
      go_wp2_with fail
      refine HWX.out.mono ?_
      rintro e w5 ⟨rfl, hb5⟩
      have hR5 := (hb5.block _ hrlF).trans HRF.out
      have r0 := cell_of_block hR5 0
      have r1 := cell_of_block hR5 1
      have r2 := cell_of_block hR5 2
      simp at r0 r1 r2
      have q0 := frozen_of_block hR5 0
      have q1 := frozen_of_block hR5 1
      have q2 := frozen_of_block hR5 2
      have HR5 := Lib.hid hR5
      have hrl5 := block_lt hR5
      have HB5 := Lib.hid (HBF.out.trans (hb5.mono HBF.out.size))
      clear hR5 hb5
      go_wp2_with fail
      have b3 := block_set (block_set (block_set HR5.out 0 (.int .i64 W)) 1 (.int .i64 H)) 2 (.string ⟨R2.toArray⟩)
      simp at b3
      exact FIN.out R2 _ _ _ _ _ _ _ HR.out (HB5.out.trans ((((Below.set 0 _).trans (Below.set 1 _)).trans (Below.set 2 _)).mono (by omega))) b3 rfl
  · rw [hf] at HST
    have HR : Hid (RES = R1) := by rw [Hid, HST.out]; simp
    have nn : ((m1 : Int) == 0) = false := by simpa using n1'
    clear HST HW2 HFP hf
    go_enter Tryd.func39, Tryd.ntmps39
    go_wp2_with fail
    generalize (w.alloc (.cells #[.int .i64 W, .int .i64 H, .string ⟨cells.toArray⟩] 41)).alloc (.cells #[.int .i64 0, .int .i64 0, .string ⟨#[]⟩] 41) = w0 at *
    refine (HOC.out _).mono ?_
    rintro e w1 ⟨a, cap, rfl, hown, hb2⟩
    have hbA := hb1.trans (hb2.mono (by omega))
    have hNA := (hb2.block _ (by omega)).trans hN2
    have hRA := (hb2.block _ (by omega)).trans hR2
    have s1 := hb2.size
    clear hb2 hN2 hR2
    go_wp2_with fail
    refine (singleRule_own _).mono ?_
    rintro e w2 ⟨g, rfl, hG, hb3⟩
    have hbB := hbA.trans (hb3.mono (by omega))
    have s2 := hb3.size
    have hNB := (hb3.block _ (by omega)).trans hNA
    have hRB := (hb3.block _ (by omega)).trans hRA
    have hown2 := hown.later hb3
    have hFX := HFI.out g _ a cap w2 hG hown2
    clear hb3 hNA hRA hbA
    go_wp2_with fail
    refine hFX.mono ?_
    rintro e w3 ⟨rfl, hb4⟩
    have hbC := hbB.trans (hb4.mono (by omega))
    have s3 := hb4.size
    have hNC := (hb4.block _ (by omega)).trans hNB
    have hRC := (hb4.block _ (by omega)).trans hRB
    have hown3 := hown2.later hb4
    have hbD := hbC.alloc hbC.size (.cells #[.int .u64 m1, .int .u64 m2] 55)
    have hVD := heap_alloc_new w3 (.cells #[.int .u64 m1, .int .u64 m2] 55)
    have hND := (Below.heap_alloc w3 (.cells #[.int .u64 m1, .int .u64 m2] 55) _ (block_lt hNC)).trans hNC
    have hRD := (Below.heap_alloc w3 (.cells #[.int .u64 m1, .int .u64 m2] 55) _ (block_lt hRC)).trans hRC
    have hownD := hown3.later ((Below.refl _ w3).alloc (Nat.le_refl _) (.cells #[.int .u64 m1, .int .u64 m2] 55))
    have hsD : w3.heap.size < (w3.alloc (.cells #[.int .u64 m1, .int .u64 m2] 55)).heap.size := by simp
    have n0 := cell_of_block hND 0
    have n1 := cell_of_block hND 1
    have n2 := cell_of_block hND 2
    simp at n0 n1 n2
    have HWX := Lib.hid (HW1.out _ (hT.later hbD))
    have HRD := Lib.hid hRD
    have hrl := block_lt hRD
    clear hb4 hNB hRB hbB hFX hND hRD hNC hRC hVD hownD hown3 hown2
    go_wp2_with fail
    refine HWX.out.mono ?_
    rintro e w5 ⟨rfl, hb5⟩
    have hR5 := (hb5.block _ hrl).trans HRD.out
    have r0 := cell_of_block hR5 0
    have r1 := cell_of_block hR5 1
    have r2 := cell_of_block hR5 2
    simp at r0 r1 r2
    have q0 := frozen_of_block hR5 0
    have q1 := frozen_of_block hR5 1
    have q2 := frozen_of_block hR5 2
    have HR5 := Lib.hid hR5
    have hrl5 := block_lt hR5
    have HB5 := Lib.hid (hbD.trans (hb5.mono hbD.size))
    clear hR5 hb5
    go_wp2_with fail
    have b3 := block_set (block_set (block_set HR5.out 0 (.int .i64 W)) 1 (.int .i64 H)) 2 (.string ⟨R1.toArray⟩)
    simp at b3
    exact FIN.out R1 _ _ _ _ _ _ _ HR.out (HB5.out.trans ((((Below.set 0 _).trans (Below.set 1 _)).trans (Below.set 2 _)).mono (by omega))) b3 rfl
  · rw [hf] at HST
    have HR : Hid (RES = R1) := by rw [Hid, HST.out]; simp
    have nn : ((m2 : Int) == 0) = false := by simpa using n2'
    clear HST HW2 HFP hf
    go_enter Tryd.func39, Tryd.ntmps39
    go_wp2_with fail
    generalize (w.alloc (.cells #[.int .i64 W, .int .i64 H, .string ⟨cells.toArray⟩] 41)).alloc (.cells #[.int .i64 0, .int .i64 0, .string ⟨#[]⟩] 41) = w0 at *
    refine (HOC.out _).mono ?_
    rintro e w1 ⟨a, cap, rfl, hown, hb2⟩
    have hbA := hb1.trans (hb2.mono (by omega))
    have hNA := (hb2.block _ (by omega)).trans hN2
    have hRA := (hb2.block _ (by omega)).trans hR2
    have s1 := hb2.size
    clear hb2 hN2 hR2
    go_wp2_with fail
    refine (singleRule_own _).mono ?_
    rintro e w2 ⟨g, rfl, hG, hb3⟩
    have hbB := hbA.trans (hb3.mono (by omega))
    have s2 := hb3.size
    have hNB := (hb3.block _ (by omega)).trans hNA
    have hRB := (hb3.block _ (by omega)).trans hRA
    have hown2 := hown.later hb3
    have hFX := HFI.out g _ a cap w2 hG hown2
    clear hb3 hNA hRA hbA
    go_wp2_with fail
    refine hFX.mono ?_
    rintro e w3 ⟨rfl, hb4⟩
    have hbC := hbB.trans (hb4.mono (by omega))
    have s3 := hb4.size
    have hNC := (hb4.block _ (by omega)).trans hNB
    have hRC := (hb4.block _ (by omega)).trans hRB
    have hown3 := hown2.later hb4
    have hbD := hbC.alloc hbC.size (.cells #[.int .u64 0, .int .u64 m2] 55)
    have hVD := heap_alloc_new w3 (.cells #[.int .u64 0, .int .u64 m2] 55)
    have hND := (Below.heap_alloc w3 (.cells #[.int .u64 0, .int .u64 m2] 55) _ (block_lt hNC)).trans hNC
    have hRD := (Below.heap_alloc w3 (.cells #[.int .u64 0, .int .u64 m2] 55) _ (block_lt hRC)).trans hRC
    have hownD := hown3.later ((Below.refl _ w3).alloc (Nat.le_refl _) (.cells #[.int .u64 0, .int .u64 m2] 55))
    have hsD : w3.heap.size < (w3.alloc (.cells #[.int .u64 0, .int .u64 m2] 55)).heap.size := by simp
    have n0 := cell_of_block hND 0
    have n1 := cell_of_block hND 1
    have n2 := cell_of_block hND 2
    simp at n0 n1 n2
    have HWX := Lib.hid (HW1.out _ (hT.later hbD))
    have HRD := Lib.hid hRD
    have hrl := block_lt hRD
    clear hb4 hNB hRB hbB hFX hND hRD hNC hRC hVD hownD hown3 hown2
    go_wp2_with fail
    refine HWX.out.mono ?_
    rintro e w5 ⟨rfl, hb5⟩
    have hR5 := (hb5.block _ hrl).trans HRD.out
    have r0 := cell_of_block hR5 0
    have r1 := cell_of_block hR5 1
    have r2 := cell_of_block hR5 2
    simp at r0 r1 r2
    have q0 := frozen_of_block hR5 0
    have q1 := frozen_of_block hR5 1
    have q2 := frozen_of_block hR5 2
    have HR5 := Lib.hid hR5
    have hrl5 := block_lt hR5
    have HB5 := Lib.hid (hbD.trans (hb5.mono hbD.size))
    clear hR5 hb5
    go_wp2_with fail
    have b3 := block_set (block_set (block_set HR5.out 0 (.int .i64 W)) 1 (.int .i64 H)) 2 (.string ⟨R1.toArray⟩)
    simp at b3
    exact FIN.out R1 _ _ _ _ _ _ _ HR.out (HB5.out.trans ((((Below.set 0 _).trans (Below.set 1 _)).trans (Below.set 2 _)).mono (by omega))) b3 rfl
end Go.Proofs.YthlbplmghjaeoacDoor
