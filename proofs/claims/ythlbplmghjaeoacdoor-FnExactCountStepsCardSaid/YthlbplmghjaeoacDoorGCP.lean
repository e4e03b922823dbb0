/- CP, CQ, laid as one text. -/
import Derived.Test.YthlbplmghjaeoacDoorGCN
import Derived.Outline

/- Notes: sound notes read; the first pair that finds something, by the program. -/
namespace Go.Proofs.YthlbplmghjaeoacDoor
open Go.RowKit

/-- What is read of sound notes: none if there are none. -/
def snW (l : List UInt8) : Nat := if isB l = true then grW noteSign l else 0
def snH (l : List UInt8) : Nat := if isB l = true then grH noteSign l else 0
def snC (l : List UInt8) : List UInt8 := if isB l = true then grC noteSign l else []
theorem sn_no {l : List UInt8} (h : isB l = false) : snW l = 0 ∧ snH l = 0 ∧ snC l = [] := by
  refine ⟨?_, ?_, ?_⟩
  · rw [snW, h]; rfl
  · rw [snH, h]; rfl
  · rw [snC, h]; rfl
theorem sn_yes {l : List UInt8} (h : isB l = true) : snW l = grW noteSign l ∧ snH l = grH noteSign l ∧ snC l = grC noteSign l := by
  refine ⟨?_, ?_, ?_⟩
  · rw [snW, if_pos h]
  · rw [snH, if_pos h]
  · rw [snC, if_pos h]
theorem sn_le (l : List UInt8) : (snC l).length ≤ 64 := by
  unfold snC
  split
  · exact grC_le _ _
  · simp
theorem sn_pos (l : List UInt8) : 0 < (snC l).length → 1 ≤ snW l := by
  unfold snC snW
  split
  · exact grW_pos _ _
  · intro h; simp at h

set_option maxRecDepth 100000 in
set_option maxHeartbeats 3200000 in
theorem readSound_any (l : List UInt8) (w : World) (hM : HasMax w) (hl : l.length ≤ 1048576) :
    Calls Tryd.prog 26 #[.string ⟨l.toArray⟩] w fun e w' => e = .returned (.tuple #[ntV (snW l) (snH l) (snC l), .bool (isB l)]) ∧ Below w.heap.size w w' := by
  have hr := fun w hM => readNotes_any l w hM hl
  have h64 := grC_le noteSign l
  have HIS := Lib.hid (fun w => isSound_any (grW noteSign l) (grH noteSign l) (grC noteSign l) w (grW_pos noteSign l) h64)
  have hRn := heap_alloc_new w (.cells #[.int .i64 0, .int .i64 0, .string ⟨#[]⟩] 41)
  have hb0 : Below w.heap.size w (w.alloc (.cells #[.int .i64 0, .int .i64 0, .string ⟨#[]⟩] 41)) := (Below.refl _ _).alloc (Nat.le_refl _) _
  have hs0 : (w.alloc (.cells #[.int .i64 0, .int .i64 0, .string ⟨#[]⟩] 41)).heap.size = w.heap.size + 1 := by simp
  have hM0 := hM.later hb0
  have HNT : Hid (∀ W H cs, ntV W H cs = .agg #[.int .i64 (W : Nat), .int .i64 (H : Nat), .string ⟨(cs : List UInt8).toArray⟩]) := fun _ _ _ => rfl
  cases hg : gridM noteSign l with
  | false =>
    have hb : isB l = false := by rw [isB, hg]; rfl
    obtain ⟨e1, e2, e3⟩ := sn_no hb
    rw [e1, e2, e3, hb, HNT.out]
    rw [hg] at hr
    clear hg e1 e2 e3 hb
    unfold ntV at hr
    go_enter Tryd.func26, Tryd.ntmps26
    go_wp2_with fail
    generalize w.alloc (.cells #[.int .i64 0, .int .i64 0, .string ⟨#[]⟩] 41) = w0 at *
    refine (hr _ hM0).mono ?_
    rintro e w1 ⟨rfl, hb1⟩
    have s1 := hb1.size
    have hb1a := hb1.alloc hb1.size (.cells #[.int .i64 (grW noteSign l), .int .i64 (grH noteSign l), .string ⟨(grC noteSign l).toArray⟩] 41)
    have hR1 := (hb1a.block _ (by omega)).trans hRn
    have r0 := cell_of_block hR1 0
    have r1 := cell_of_block hR1 1
    have r2 := cell_of_block hR1 2
    simp at r0 r1 r2
    have q0 := frozen_of_block hR1 0
    have q1 := frozen_of_block hR1 1
    have q2 := frozen_of_block hR1 2
    have HR := Lib.hid hR1
    have hRlt := block_lt hR1
    have HB := Lib.hid (hb0.trans (hb1a.mono (by omega)))
    clear hR1 hb1a hb1 hRn hr hb0
    go_wp2_with fail
    have b3 := block_set (block_set (block_set HR.out 0 (.int .i64 0)) 1 (.int .i64 0)) 2 (.string ⟨#[]⟩)
    refine bodyPost_ret (v := .tuple #[.agg #[.int .i64 0, .int .i64 0, .string ⟨#[]⟩], .bool false]) ?_ rfl ?_
    · have r0 := cell_of_block b3 0
      have r1 := cell_of_block b3 1
      have r2 := cell_of_block b3 2
      simp at r0 r1 r2
      simp [results, Tryd.results26, go_sem, r0, r1, r2]
    · exact ⟨rfl, HB.out.trans (((Below.set 0 _).trans (Below.set 1 _)).trans (Below.set 2 _))⟩
  | true =>
    rw [hg] at hr
    unfold ntV at hr HIS
    cases hsd : soundM (grC noteSign l) (grW noteSign l) with
    | false =>
      have hb : isB l = false := by rw [isB, hsd]; simp
      obtain ⟨e1, e2, e3⟩ := sn_no hb
      rw [e1, e2, e3, hb, HNT.out]
      rw [hsd] at HIS
      clear hg e1 e2 e3 hb hsd
      go_enter Tryd.func26, Tryd.ntmps26
      go_wp2_with fail
      generalize w.alloc (.cells #[.int .i64 0, .int .i64 0, .string ⟨#[]⟩] 41) = w0 at *
      refine (hr _ hM0).mono ?_
      rintro e w1 ⟨rfl, hb1⟩
      have s1 := hb1.size
      have hb1a := hb1.alloc hb1.size (.cells #[.int .i64 (grW noteSign l), .int .i64 (grH noteSign l), .string ⟨(grC noteSign l).toArray⟩] 41)
      have hR1 := (hb1a.block _ (by omega)).trans hRn
      have HR := Lib.hid hR1
      have hRlt := block_lt hR1
      have HB := Lib.hid (hb0.trans (hb1a.mono (by omega)))
      clear hR1 hb1a hb1 hRn hr hb0
      go_wp2_with fail
      generalize w1.alloc (.cells #[.int .i64 (grW noteSign l), .int .i64 (grH noteSign l), .string ⟨(grC noteSign l).toArray⟩] 41) = w2 at *
      refine (HIS.out _).mono ?_
      rintro e w3 ⟨rfl, hb3⟩
      have hR3 := (hb3.block _ hRlt).trans HR.out
      have r0 := cell_of_block hR3 0
      have r1 := cell_of_block hR3 1
      have r2 := cell_of_block hR3 2
      simp at r0 r1 r2
      have q0 := frozen_of_block hR3 0
      have q1 := frozen_of_block hR3 1
      have q2 := frozen_of_block hR3 2
      have HR3 := Lib.hid hR3
      have hRlt3 := block_lt hR3
      have HB3 := Lib.hid (HB.out.trans (hb3.mono (by omega)))
      clear hR3 hb3
      go_wp2_with fail
      have b3 := block_set (block_set (block_set HR3.out 0 (.int .i64 0)) 1 (.int .i64 0)) 2 (.string ⟨#[]⟩)
      refine bodyPost_ret (v := .tuple #[.agg #[.int .i64 0, .int .i64 0, .string ⟨#[]⟩], .bool false]) ?_ rfl ?_
      · have r0 := cell_of_block b3 0
        have r1 := cell_of_block b3 1
        have r2 := cell_of_block b3 2
        simp at r0 r1 r2
        simp [results, Tryd.results26, go_sem, r0, r1, r2]
      · exact ⟨rfl, HB3.out.trans (((Below.set 0 _).trans (Below.set 1 _)).trans (Below.set 2 _))⟩
    | true =>
      have hb : isB l = true := by rw [isB, hg, hsd]; rfl
      obtain ⟨e1, e2, e3⟩ := sn_yes hb
      rw [e1, e2, e3, hb, HNT.out]
      rw [hsd] at HIS
      clear hg e1 e2 e3 hb hsd
      go_enter Tryd.func26, Tryd.ntmps26
      go_wp2_with fail
      generalize w.alloc (.cells #[.int .i64 0, .int .i64 0, .string ⟨#[]⟩] 41) = w0 at *
      refine (hr _ hM0).mono ?_
      rintro e w1 ⟨rfl, hb1⟩
      have s1 := hb1.size
      have hb1a := hb1.alloc hb1.size (.cells #[.int .i64 (grW noteSign l), .int .i64 (grH noteSign l), .string ⟨(grC noteSign l).toArray⟩] 41)
      have hN1 := heap_alloc_new w1 (.cells #[.int .i64 (grW noteSign l), .int .i64 (grH noteSign l), .string ⟨(grC noteSign l).toArray⟩] 41)
      have hR1 := (hb1a.block _ (by omega)).trans hRn
      have HR := Lib.hid hR1
      have HN1 := Lib.hid hN1
      have hRlt := block_lt hR1
      have hNlt := block_lt hN1
      have HB := Lib.hid (hb0.trans (hb1a.mono (by omega)))
      clear hR1 hN1 hb1a hb1 hRn hr hb0
      go_wp2_with fail
      generalize w1.alloc (.cells #[.int .i64 (grW noteSign l), .int .i64 (grH noteSign l), .string ⟨(grC noteSign l).toArray⟩] 41) = w2 at *
      refine (HIS.out _).mono ?_
      rintro e w3 ⟨rfl, hb3⟩
      have hR3 := (hb3.block _ hRlt).trans HR.out
      have hN3 := (hb3.block _ hNlt).trans HN1.out
      have r0 := cell_of_block hR3 0
      have r1 := cell_of_block hR3 1
      have r2 := cell_of_block hR3 2
      have n0 := cell_of_block hN3 0
      have n1 := cell_of_block hN3 1
      have n2 := cell_of_block hN3 2
      simp at r0 r1 r2 n0 n1 n2
      have q0 := frozen_of_block hR3 0
      have q1 := frozen_of_block hR3 1
      have q2 := frozen_of_block hR3 2
      have HR3 := Lib.hid hR3
      have hRlt3 := block_lt hR3
      have HB3 := Lib.hid (HB.out.trans (hb3.mono (by omega)))
      clear hR3 hN3 hb3
      go_wp2_with fail
      have b3 := block_set (block_set (block_set HR3.out 0 (.int .i64 (grW noteSign l))) 1 (.int .i64 (grH noteSign l))) 2 (.string ⟨(grC noteSign l).toArray⟩)
      refine bodyPost_ret (v := .tuple #[.agg #[.int .i64 (grW noteSign l), .int .i64 (grH noteSign l), .string ⟨(grC noteSign l).toArray⟩], .bool true]) ?_ rfl ?_
      · have r0 := cell_of_block b3 0
        have r1 := cell_of_block b3 1
        have r2 := cell_of_block b3 2
        simp at r0 r1 r2
        simp [results, Tryd.results26, go_sem, r0, r1, r2]
      · exact ⟨rfl, HB3.out.trans (((Below.set 0 _).trans (Below.set 1 _)).trans (Below.set 2 _))⟩

/-- The first pair of open cells that finds something. -/
def fstP (cells : List UInt8) (W : Nat) (ks : List Nat) : List Nat → Nat × Nat × (List Nat × List Nat)
  | [] => (0, 0, ([], []))
  | a :: r => if fnd (fstM cells W (nrS cells W a 63) (restM cells W a) ks).2 = true then (a, fstM cells W (nrS cells W a 63) (restM cells W a) ks) else fstP cells W ks r
theorem fstP_cel (cells : List UInt8) (W : Nat) (ks : List Nat) : ∀ r : List Nat, Cel cells.length (fstP cells W ks r).2.2.1 ∧ Cel cells.length (fstP cells W ks r).2.2.2
  | [] => ⟨Cel.nil _, Cel.nil _⟩
  | a :: r => by
    unfold fstP
    split
    · exact fst_cel cells W _ _ ks
    · exact fstP_cel cells W ks r
end Go.Proofs.YthlbplmghjaeoacDoor

/- Notes: the first pair that finds something, by the program. -/
namespace Go.Proofs.YthlbplmghjaeoacDoor
open Go.RowKit

set_option maxRecDepth 100000 in
set_option maxHeartbeats 3200000 in
theorem firstPair_any (W : Nat) (cells : List UInt8) (hn : cells.length ≤ 64) (B : Nat) (a : Option Addr) (cap : Nat) (w : World) (hown : Own3 w B (.slice a (openL cells W).length cap) (openL cells W)) :
    Calls Tryd.prog 37 #[.slice a (openL cells W).length cap] w fun e w' => e = .returned (.tuple #[.int .i64 ((fstP cells W (opens cells) (opens cells)).1 : Nat), .int .i64 ((fstP cells W (opens cells) (opens cells)).2.1 : Nat), fdV (fstP cells W (opens cells) (opens cells)).2.2.1 (fstP cells W (opens cells) (opens cells)).2.2.2]) ∧ Below w.heap.size w w' := by
  have HLEN : Hid ((openL cells W).length = (opens cells).length) := by rw [Hid, openL, List.length_map]
  have HGET : Hid (∀ k (h : k < (opens cells).length) (h2 : k < (openL cells W).length), (openL cells W)[k] = ((opens cells)[k], restM cells W (opens cells)[k], maskM (nrS cells W (opens cells)[k] 63))) := by
    intro k h h2
    simp [openL, ocT]
  have hopl : (opens cells).length ≤ 64 := by
    refine Nat.le_trans (List.length_filter_le _ _) ?_
    rw [List.length_range]
    exact hn
  have hfirst := fun x (fc : Int) g w (hG : w.heap[g]? = some (.cells #[.int .i64 fc, .int .i64 (restM cells W x), .int .u64 (maskM (nrS cells W x 63) : Nat)] 51 (0, 0))) ho => first_any W cells hn (nrS cells W x 63) (Cel.near cells W x 63) fc (restM cells W x) (rest_range cells W x hn) g B a cap w hG ho
  have hcel := fun x => fst_cel cells W (nrS cells W x 63) (restM cells W x) (opens cells)
  have HCEL := Lib.hid hcel
  rw [HLEN.out] at hown hfirst ⊢
  have HFI := Lib.hid hfirst
  clear hcel hfirst
  generalize openL cells W = OL at *
  generalize opens cells = ks at *
  have hR0 := heap_alloc_new w (.cells #[.int .u64 0, .int .u64 0] 55)
  have hb0 : Below w.heap.size w (w.alloc (.cells #[.int .u64 0, .int .u64 0] 55)) := (Below.refl _ _).alloc (Nat.le_refl _) _
  have hown0 := hown.later hb0
  have hs0 : w.heap.size < (w.alloc (.cells #[.int .u64 0, .int .u64 0] 55)).heap.size := by simp
  clear hown
  go_enter Tryd.func37, Tryd.ntmps37
  go_wp2_with fail
  generalize w.alloc (.cells #[.int .u64 0, .int .u64 0] 55) = w0 at *
  have HR0 := Lib.hid hR0
  clear hR0
  go_loopw [11] (fun i wr => ∃ k : Nat, k ≤ ks.length ∧ i = .int .i64 k ∧ Below w0.heap.size w0 wr ∧ Hid (fstP cells W ks ks = fstP cells W ks (ks.drop k))) (fun i _ => ks.length - (intOf i).toNat)
  case atStart => exact ⟨0, Nat.zero_le _, rfl, Below.refl _ _, rfl⟩
  case round =>
    obtain ⟨k, hk, rfl, hbr, hF⟩ := hrel
    have sr := hbr.size
    by_cases hlt : k < ks.length
    · have hltO : k < OL.length := by rw [HLEN.out]; exact hlt
      have HD : Hid (fstP cells W ks (ks.drop k) = if fnd (fstM cells W (nrS cells W ks[k] 63) (restM cells W ks[k]) ks).2 = true then (ks[k], fstM cells W (nrS cells W ks[k] 63) (restM cells W ks[k]) ks) else fstP cells W ks (ks.drop (k + 1))) := by rw [Hid, List.drop_eq_getElem_cons hlt, fstP]
      obtain ⟨q, hga, c0, c1, c2⟩ := (hown0.later hbr).at k hltO
      subst hga
      rw [HGET.out k hlt hltO] at c0 c1 c2
      simp only at c0 c1 c2
      have hfm := fnd_mask hn (HCEL.out ks[k]).1 (HCEL.out ks[k]).2
      have HFX := Lib.hid (fun g w => HFI.out ks[k] (ks[k] : Nat) g w)
      have HFD : Hid (∀ p : List Nat × List Nat, fdV p.1 p.2 = .agg #[.int .u64 (maskM p.1 : Nat), .int .u64 (maskM p.2 : Nat)]) := fun _ => rfl
      rw [HFD.out] at HFX
      have HR1 := Lib.hid ((hbr.block _ hs0).trans HR0.out)
      generalize ks[k] = x at *
      generalize fstM cells W (nrS cells W x 63) (restM cells W x) ks = F at *
      generalize restM cells W x = rk at *
      generalize maskM (nrS cells W x 63) = mk at *
      obtain ⟨y, P⟩ := F
      simp only at HD hfm HFX
      have hba : Below wr.heap.size wr (wr.alloc (.cells #[.int .i64 x, .int .i64 rk, .int .u64 mk] 51)) := (Below.refl _ _).alloc (Nat.le_refl _) _
      have hbb := hba.alloc hba.size (.cells #[.int .i64 x, .int .i64 rk, .int .u64 mk] 51)
      have hPa := heap_alloc_new wr (.cells #[.int .i64 x, .int .i64 rk, .int .u64 mk] 51)
      have hGb := heap_alloc_new (wr.alloc (.cells #[.int .i64 x, .int .i64 rk, .int .u64 mk] 51)) (.cells #[.int .i64 x, .int .i64 rk, .int .u64 mk] 51)
      have hPb := (Below.heap_alloc (wr.alloc (.cells #[.int .i64 x, .int .i64 rk, .int .u64 mk] 51)) (.cells #[.int .i64 x, .int .i64 rk, .int .u64 mk] 51) _ (block_lt hPa)).trans hPa
      have hsA : (wr.alloc (.cells #[.int .i64 x, .int .i64 rk, .int .u64 mk] 51)).heap.size = wr.heap.size + 1 := by simp
      have HPX := Lib.hid (HFX.out _ _ hGb ((hown0.later hbr).later hbb))
      have HBX := Lib.hid (hbr.trans (hbb.mono sr))
      have hRb := (hbb.block _ (by omega)).trans HR1.out
      have hkk : ∀ w', Below ((wr.alloc (.cells #[.int .i64 x, .int .i64 rk, .int .u64 mk] 51)).alloc (.cells #[.int .i64 x, .int .i64 rk, .int .u64 mk] 51)).heap.size ((wr.alloc (.cells #[.int .i64 x, .int .i64 rk, .int .u64 mk] 51)).alloc (.cells #[.int .i64 x, .int .i64 rk, .int .u64 mk] 51)) w' →
          w'.heap[wr.heap.size]? = some (.cells #[.int .i64 x, .int .i64 rk, .int .u64 mk] 51 (0, 0)) ∧ w'.heap[w.heap.size]? = some (.cells #[.int .u64 0, .int .u64 0] 55 (0, 0)) ∧ Below w0.heap.size w0 w' := fun w' h =>
        ⟨(h.block _ (block_lt hPb)).trans hPb, (h.block _ (block_lt hRb)).trans hRb, HBX.out.trans (h.mono HBX.out.size)⟩
      have HKK := Lib.hid hkk
      have hpr := pairRule_any (x : Nat) rk mk (wr.alloc (.cells #[.int .i64 x, .int .i64 rk, .int .u64 mk] 51))
      have HPR := Lib.hid hpr
      generalize hm1 : maskM P.1 = m1 at *
      generalize hm2 : maskM P.2 = m2 at *
      have HM1 := Lib.hid hm1
      have HM2 := Lib.hid hm2
      clear hPa hba hbb hGb hPb hRb hkk hpr hm1 hm2 HFX
      rw [hsA] at HPX HPR
      by_cases hf : m1 = 0 ∧ m2 = 0
      · obtain ⟨rfl, rfl⟩ := hf
        have HN : Hid (fnd P = false) := by rw [Hid, hfm]; rfl
        clear hfm
        go_wp2_with fail
        refine HPR.out.mono ?_
        rintro e w2 ⟨rfl, rfl⟩
        go_wp2_with fail
        refine HPX.out.mono ?_
        rintro e w3 ⟨rfl, hb3⟩
        obtain ⟨hP3, hR3, hb4⟩ := HKK.out _ hb3
        go_wp2_with fail
        go_roundw
        case rel => exact ⟨k + 1, by omega, by go_num, hb4.alloc hb4.size _, by rw [Hid, hF.out, HD.out, if_neg (by rw [HN.out]; decide)]⟩
        case measure => simp [intOf]; omega
      · have HY : Hid (fnd P = true) := by
          rw [Hid, hfm]
          simp only [Bool.not_eq_true', Bool.and_eq_false_iff, beq_eq_false_iff_ne]
          omega
        have HFIN : Hid (fstP cells W ks ks = (x, (y, P))) := by rw [Hid, hF.out, HD.out, if_pos HY.out]
        clear hfm
        have hcase : (¬ ((m1 : Int) = 0)) ∨ (m1 = 0 ∧ ¬ ((m2 : Int) = 0)) := by omega
        clear hf
        rcases hcase with n1 | ⟨rfl, n2⟩
        · have n1' : ((m1 : Int) == 0) = false := by simpa using n1
          go_wp2_with fail
          refine HPR.out.mono ?_
          rintro e w2 ⟨rfl, rfl⟩
          go_wp2_with fail
          refine HPX.out.mono ?_
          rintro e w3 ⟨rfl, hb3⟩
          obtain ⟨hP3, hR3, hb4⟩ := HKK.out _ hb3
          go_wp2_with fail
          have hb5 := hb4.alloc hb4.size (.cells #[.int .u64 m1, .int .u64 m2] 55)
          have hX4 := heap_alloc_new w3 (.cells #[.int .u64 m1, .int .u64 m2] 55)
          have hP4 := (Below.heap_alloc w3 (.cells #[.int .u64 m1, .int .u64 m2] 55) _ (block_lt hP3)).trans hP3
          have hR4 := (Below.heap_alloc w3 (.cells #[.int .u64 m1, .int .u64 m2] 55) _ (block_lt hR3)).trans hR3
          generalize w3.alloc (.cells #[.int .u64 m1, .int .u64 m2] 55) = w4 at *
          have p0 : w4.cell? ⟨wr.heap.size, 0, none⟩ = some (.int .i64 x) := by rw [cell_of_block hP4]; rfl
          have x0 : w4.cell? ⟨w3.heap.size, 0, none⟩ = some (.int .u64 m1) := by rw [cell_of_block hX4]; rfl
          have x1 : w4.cell? ⟨w3.heap.size, 1, none⟩ = some (.int .u64 m2) := by rw [cell_of_block hX4]; rfl
          have r0 : w4.cell? ⟨w.heap.size, 0, none⟩ = some (.int .u64 0) := by rw [cell_of_block hR4]; rfl
          have r1 : w4.cell? ⟨w.heap.size, 1, none⟩ = some (.int .u64 0) := by rw [cell_of_block hR4]; rfl
          have q0 := frozen_of_block hR4 0
          have q1 := frozen_of_block hR4 1
          have HR4 := Lib.hid hR4
          have hrlt := block_lt hR4
          have hplt := block_lt hP4
          have hxlt := block_lt hX4
          clear hP3 hR3 hb3 hP4 hX4 hR4
          go_region
          go_wp2_with fail
          have b2 := block_set (block_set HR4.out 0 (.int .u64 m1)) 1 (.int .u64 m2)
          refine bodyPost_ret (v := .tuple #[.int .i64 x, .int .i64 y, .agg #[.int .u64 m1, .int .u64 m2]]) ?_ rfl ?_
          · have z0 := cell_of_block b2 0
            have z1 := cell_of_block b2 1
            simp at z0 z1
            simp [results, Tryd.results37, go_sem, z0, z1]
          · exact ⟨by (rw [HFIN.out, HFD.out, HM1.out, HM2.out]) <;> rfl, toDrew ((hb0.trans (hb5.mono (by omega))).trans (((Below.set 0 _).trans (Below.set 1 _)).mono (Nat.le_refl _)))⟩
        · have n2' : ((m2 : Int) == 0) = false := by simpa using n2
          go_wp2_with fail
          refine HPR.out.mono ?_
          rintro e w2 ⟨rfl, rfl⟩
          go_wp2_with fail
          refine HPX.out.mono ?_
          rintro e w3 ⟨rfl, hb3⟩
          obtain ⟨hP3, hR3, hb4⟩ := HKK.out _ hb3
          go_wp2_with fail
          have hb5 := hb4.alloc hb4.size (.cells #[.int .u64 0, .int .u64 m2] 55)
          have hX4 := heap_alloc_new w3 (.cells #[.int .u64 0, .int .u64 m2] 55)
          have hP4 := (Below.heap_alloc w3 (.cells #[.int .u64 0, .int .u64 m2] 55) _ (block_lt hP3)).trans hP3
          have hR4 := (Below.heap_alloc w3 (.cells #[.int .u64 0, .int .u64 m2] 55) _ (block_lt hR3)).trans hR3
          generalize w3.alloc (.cells #[.int .u64 0, .int .u64 m2] 55) = w4 at *
          have p0 : w4.cell? ⟨wr.heap.size, 0, none⟩ = some (.int .i64 x) := by rw [cell_of_block hP4]; rfl
          have x0 : w4.cell? ⟨w3.heap.size, 0, none⟩ = some (.int .u64 0) := by rw [cell_of_block hX4]; rfl
          have x1 : w4.cell? ⟨w3.heap.size, 1, none⟩ = some (.int .u64 m2) := by rw [cell_of_block hX4]; rfl
          have r0 : w4.cell? ⟨w.heap.size, 0, none⟩ = some (.int .u64 0) := by rw [cell_of_block hR4]; rfl
          have r1 : w4.cell? ⟨w.heap.size, 1, none⟩ = some (.int .u64 0) := by rw [cell_of_block hR4]; rfl
          have q0 := frozen_of_block hR4 0
          have q1 := frozen_of_block hR4 1
          have HR4 := Lib.hid hR4
          have hrlt := block_lt hR4
          have hplt := block_lt hP4
          have hxlt := block_lt hX4
          clear hP3 hR3 hb3 hP4 hX4 hR4
          go_region
          go_wp2_with fail
          have b2 := block_set (block_set HR4.out 0 (.int .u64 0)) 1 (.int .u64 m2)
          refine bodyPost_ret (v := .tuple #[.int .i64 x, .int .i64 y, .agg #[.int .u64 0, .int .u64 m2]]) ?_ rfl ?_
          · have z0 := cell_of_block b2 0
            have z1 := cell_of_block b2 1
            simp at z0 z1
            simp [results, Tryd.results37, go_sem, z0, z1]
          · exact ⟨by (rw [HFIN.out, HFD.out, HM1.out, HM2.out]) <;> rfl, toDrew ((hb0.trans (hb5.mono (by omega))).trans (((Below.set 0 _).trans (Below.set 1 _)).mono (Nat.le_refl _)))⟩
    · obtain rfl : k = ks.length := by omega
      have hRr := (hbr.block _ hs0).trans HR0.out
      have r0 := cell_of_block hRr 0
      have r1 := cell_of_block hRr 1
      simp at r0 r1
      have q0 := frozen_of_block hRr 0
      have q1 := frozen_of_block hRr 1
      have HRr := Lib.hid hRr
      have hrlt := block_lt hRr
      have HFIN : Hid (fstP cells W ks ks = (0, 0, ([], []))) := by rw [Hid, hF.out, List.drop_length]; rfl
      clear hRr
      go_wp2_with fail
      have b2 := block_set (block_set HRr.out 0 (.int .u64 0)) 1 (.int .u64 0)
      refine bodyPost_ret (v := .tuple #[.int .i64 0, .int .i64 0, .agg #[.int .u64 0, .int .u64 0]]) ?_ rfl ?_
      · have z0 := cell_of_block b2 0
        have z1 := cell_of_block b2 1
        simp at z0 z1
        simp [results, Tryd.results37, go_sem, z0, z1]
      · exact ⟨by rw [HFIN.out]; rfl, (hb0.trans (hbr.mono (by omega))).trans (((Below.set 0 _).trans (Below.set 1 _)).mono (Nat.le_refl _))⟩
end Go.Proofs.YthlbplmghjaeoacDoor
