/- CP, CQ, laid as one text. -/
import Derived.Test.YthlbplmghjaeoabDoorGCN
import Derived.Outline

/- Notes: sound notes read; the first pair that finds something, by the program. -/
namespace Go.Proofs.YthlbplmghjaeoabDoor
open Go.RowKit

/-- What is read of sound notes: none if there are none. -/
def snW (l : List UInt8) : Nat := if isB l = true then grW noteSign l else 0
def snH (l : List UInt8) : Nat := if isB l = true then grH noteSign l else 0
def snC (l : List UInt8) : List UInt8 := if isB l = true then grC noteSign l else []
theorem sn_no {l : List UInt8} (h : isB l = false) : snW l = 0 ∧ snH l = 0 ∧ snC l = [] := by
  refine ⟨?_, ?_, ?_⟩
  · rw [snW, h]; rfl
  · rw [snH, h]; rfl
  · rw [snC, h]; rfl
theorem sn_yes {l : List UInt8} (h : isB l = true) : snW l = grW noteSign l ∧ snH l = grH noteSign l ∧ snC l = grC noteSign l := by
  refine ⟨?_, ?_, ?_⟩
  · rw [snW, if_pos h]
  · rw [snH, if_pos h]
  · rw [snC, if_pos h]
theorem sn_le (l : List UInt8) : (snC l).length ≤ 64 := by
  unfold snC
  split
  · exact grC_le _ _
  · simp
theorem sn_pos (l : List UInt8) : 0 < (snC l).length → 1 ≤ snW l := by
  unfold snC snW
  split
  · exact grW_pos _ _
  · intro h; simp at h

set_option maxRecDepth 100000 in
set_option maxHeartbeats 3200000 in
theorem readSound_any (l : List UInt8) (w : World) (hM : HasMax w) (hl : l.length ≤ 1048576) :
    Calls Tryd.prog 58 #[.string ⟨l.toArray⟩] w fun e w' => e = .returned (.tuple #[ntV (snW l) (snH l) (snC l), .bool (isB l)]) ∧ Below w.heap.size w w' := by
  have hr := fun w hM => readNotes_any l w hM hl
  have h64 := grC_le noteSign l
  have HIS := Lib.hid (fun w => isSound_any (grW noteSign l) (grH noteSign l) (grC noteSign l) w (grW_pos noteSign l) h64)
  have hRn := heap_alloc_new w (.cells #[.int .i64 0, .int .i64 0, .string ⟨#[]⟩] 44)
  have hb0 : Below w.heap.size w (w.alloc (.cells #[.int .i64 0, .int .i64 0, .string ⟨#[]⟩] 44)) := (Below.refl _ _).alloc (Nat.le_refl _) _
  have hs0 : (w.alloc (.cells #[.int .i64 0, .int .i64 0, .string ⟨#[]⟩] 44)).heap.size = w.heap.size + 1 := by simp
  have hM0 := hM.later hb0
  have HNT : Hid (∀ W H cs, ntV W H cs = .agg #[.int .i64 (W : Nat), .int .i64 (H : Nat), .string ⟨(cs : List UInt8).toArray⟩]) := fun _ _ _ => rfl
  cases hg : gridM noteSign l with
  | false =>
    have hb : isB l = false := by rw [isB, hg]; rfl
    obtain ⟨e1, e2, e3⟩ := sn_no hb
    rw [e1, e2, e3, hb, HNT.out]
    rw [hg] at hr
    clear hg e1 e2 e3 hb
    unfold ntV at hr
    go_enter Tryd.func58, Tryd.ntmps58
    go_wp2_with fail
    generalize w.alloc (.cells #[.int .i64 0, .int .i64 0, .string ⟨#[]⟩] 44) = w0 at *
    refine (hr _ hM0).mono ?_
    rintro e w1 ⟨rfl, hb1⟩
    have s1 := hb1.size
    have hb1a := hb1.alloc hb1.size (.cells #[.int .i64 (grW noteSign l), .int .i64 (grH noteSign l), .string ⟨(grC noteSign l).toArray⟩] 44)
    have hR1 := (hb1a.block _ (by omega)).trans hRn
    have r0 := cell_of_block hR1 0
    have r1 := cell_of_block hR1 1
    have r2 := cell_of_block hR1 2
    simp at r0 r1 r2
    have q0 := frozen_of_block hR1 0
    have q1 := frozen_of_block hR1 1
    have q2 := frozen_of_block hR1 2
    have HR := Lib.hid hR1
    have hRlt := block_lt hR1
    have HB := Lib.hid (hb0.trans (hb1a.mono (by omega)))
    clear hR1 hb1a hb1 hRn hr hb0
    go_wp2_with fail
    have b3 := block_set (block_set (block_set HR.out 0 (.int .i64 0)) 1 (.int .i64 0)) 2 (.string ⟨#[]⟩)
    refine bodyPost_ret (v := .tuple #[.agg #[.int .i64 0, .int .i64 0, .string ⟨#[]⟩], .bool false]) ?_ rfl ?_
    · have r0 := cell_of_block b3 0
      have r1 := cell_of_block b3 1
      have r2 := cell_of_block b3 2
      simp at r0 r1 r2
      simp [results, Tryd.results58, go_sem, r0, r1, r2]
    · exact ⟨rfl, HB.out.trans (((Below.set 0 _).trans (Below.set 1 _)).trans (Below.set 2 _))⟩
  | true =>
    rw [hg] at hr
    unfold ntV at hr HIS
    cases hsd : soundM (grC noteSign l) (grW noteSign l) with
    | false =>
      have hb : isB l = false := by rw [isB, hsd]; simp
      obtain ⟨e1, e2, e3⟩ := sn_no hb
      rw [e1, e2, e3, hb, HNT.out]
      rw [hsd] at HIS
      clear hg e1 e2 e3 hb hsd
      go_enter Tryd.func58, Tryd.ntmps58
      go_wp2_with fail
      generalize w.alloc (.cells #[.int .i64 0, .int .i64 0, .string ⟨#[]⟩] 44) = w0 at *
      refine (hr _ hM0).mono ?_
      rintro e w1 ⟨rfl, hb1⟩
      have s1 := hb1.size
      have hb1a := hb1.alloc hb1.size (.cells #[.int .i64 (grW noteSign l), .int .i64 (grH noteSign l), .string ⟨(grC noteSign l).toArray⟩] 44)
      have hR1 := (hb1a.block _ (by omega)).trans hRn
      have HR := Lib.hid hR1
      have hRlt := block_lt hR1
      have HB := Lib.hid (hb0.trans (hb1a.mono (by omega)))
      clear hR1 hb1a hb1 hRn hr hb0
      go_wp2_with fail
      generalize w1.alloc (.cells #[.int .i64 (grW noteSign l), .int .i64 (grH noteSign l), .string ⟨(grC noteSign l).toArray⟩] 44) = w2 at *
      refine (HIS.out _).mono ?_
      rintro e w3 ⟨rfl, hb3⟩
      have hR3 := (hb3.block _ hRlt).trans HR.out
      have r0 := cell_of_block hR3 0
      have r1 := cell_of_block hR3 1
      have r2 := cell_of_block hR3 2
      simp at r0 r1 r2
      have q0 := frozen_of_block hR3 0
      have q1 := frozen_of_block hR3 1
      have q2 := frozen_of_block hR3 2
      have HR3 := Lib.hid hR3
      have hRlt3 := block_lt hR3
      have HB3 := Lib.hid (HB.out.trans (hb3.mono (by omega)))
      clear hR3 hb3
      go_wp2_with fail
      have b3 := block_set (block_set (block_set HR3.out 0 (.int .i64 0)) 1 (.int .i64 0)) 2 (.string ⟨#[]⟩)
      refine bodyPost_ret (v := .tuple #[.agg #[.int .i64 0, .int .i64 0, .string ⟨#[]⟩], .bool false]) ?_ rfl ?_
      · have r0 := cell_of_block b3 0
        have r1 := cell_of_block b3 1
        have r2 := cell_of_block b3 2
        simp at r0 r1 r2
        simp [results, Tryd.results58, go_sem, r0, r1, r2]
      · exact ⟨rfl, HB3.out.trans (((Below.set 0 _).trans (Below.set 1 _)).trans (Below.set 2 _))⟩
    | true =>
      have hb : isB l = true := by rw [isB, hg, hsd]; rfl
      obtain ⟨e1, e2, e3⟩ := sn_yes hb
      rw [e1, e2, e3, hb, HNT.out]
      rw [hsd] at HIS
      clear hg e1 e2 e3 hb hsd
      go_enter Tryd.func58, Tryd.ntmps58
      go_wp2_with fail
      generalize w.alloc (.cells #[.int .i64 0, .int .i64 0, .string ⟨#[]⟩] 44) = w0 at *
      refine (hr _ hM0).mono ?_
      rintro e w1 ⟨rfl, hb1⟩
      have s1 := hb1.size
      have hb1a := hb1.alloc hb1.size (.cells #[.int .i64 (grW noteSign l), .int .i64 (grH noteSign l), .string ⟨(grC noteSign l).toArray⟩] 44)
      have hN1 := heap_alloc_new w1 (.cells #[.int .i64 (grW noteSign l), .int .i64 (grH noteSign l), .string ⟨(grC noteSign l).toArray⟩] 44)
      have hR1 := (hb1a.block _ (by omega)).trans hRn
      have HR := Lib.hid hR1
      have HN1 := Lib.hid hN1
      have hRlt := block_lt hR1
      have hNlt := block_lt hN1
      have HB := Lib.hid (hb0.trans (hb1a.mono (by omega)))
      clear hR1 hN1 hb1a hb1 hRn hr hb0
      go_wp2_with fail
      generalize w1.alloc (.cells #[.int .i64 (grW noteSign l), .int .i64 (grH noteSign l), .string ⟨(grC noteSign l).toArray⟩] 44) = w2 at *
      refine (HIS.out _).mono ?_
      rintro e w3 ⟨rfl, hb3⟩
      have hR3 := (hb3.block _ hRlt).trans HR.out
      have hN3 := (hb3.block _ hNlt).trans HN1.out
      have r0 := cell_of_block hR3 0
      have r1 := cell_of_block hR3 1
      have r2 := cell_of_block hR3 2
      have n0 := cell_of_block hN3 0
      have n1 := cell_of_block hN3 1
      have n2 := cell_of_block hN3 2
      simp at r0 r1 r2 n0 n1 n2
      have q0 := frozen_of_block hR3 0
      have q1 := frozen_of_block hR3 1
      have q2 := frozen_of_block hR3 2
      have HR3 := Lib.hid hR3
      have hRlt3 := block_lt hR3
      have HB3 := Lib.hid (HB.out.trans (hb3.mono (by omega)))
      clear hR3 hN3 hb3
      go_wp2_with fail
      have b3 := block_set (block_set (block_set HR3.out 0 (.int .i64 (grW noteSign l))) 1 (.int .i64 (grH noteSign l))) 2 (.string ⟨(grC noteSign l).toArray⟩)
      refine bodyPost_ret (v := .tuple #[.agg #[.int .i64 (grW noteSign l), .int .i64 (grH noteSign l), .string ⟨(grC noteSign l).toArray⟩], .bool true]) ?_ rfl ?_
      · have r0 := cell_of_block b3 0
        have r1 := cell_of_block b3 1
        have r2 := cell_of_block b3 2
        simp at r0 r1 r2
        simp [results, Tryd.results58, go_sem, r0, r1, r2]
      · exact ⟨rfl, HB3.out.trans (((Below.set 0 _).trans (Below.set 1 _)).trans (Below.set 2 _))⟩

/-- The first pair of open cells that finds something. -/
def fstP (cells : List UInt8) (W : Nat) (ks : List Nat) : List Nat → Nat × Nat × (List Nat × List Nat)
  | [] => (0, 0, ([], []))
  | a :: r => if fnd (fstM cells W (nrS cells W a 63) (restM cells W a) ks).2 = true then (a, fstM cells W (nrS cells W a 63) (restM cells W a) ks) else fstP cells W ks r
theorem fstP_cel (cells : List UInt8) (W : Nat) (ks : List Nat) : ∀ r : List Nat, Cel cells.length (fstP cells W ks r).2.2.1 ∧ Cel cells.length (fstP cells W ks r).2.2.2
  | [] => ⟨Cel.nil _, Cel.nil _⟩
  | a :: r => by
    unfold fstP
    split
    · exact fst_cel cells W _ _ ks
    · exact fstP_cel cells W ks r
end Go.Proofs.YthlbplmghjaeoabDoor

/- Notes: the first pair that finds something, by the program. -/
namespace Go.Proofs.YthlbplmghjaeoabDoor
open Go.RowKit

end Go.Proofs.YthlbplmghjaeoabDoor
