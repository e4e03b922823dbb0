/- Notes: the first open cell that finds something by a rule, by the program. -/
import Derived.Test.YthlbplmghjaeoacDoorCL
import Derived.RegionTactic
import Derived.Outline
namespace Go.Proofs.YthlbplmghjaeoacDoor
open Go.RowKit

/-- Is something found? -/
def fnd (p : List Nat × List Nat) : Bool := !(p.1.isEmpty && p.2.isEmpty)
def pairAt (cells : List UInt8) (W : Nat) (na : List Nat) (ra : Int) (k : Nat) : List Nat × List Nat := pairL na (nrS cells W k 63) (restM cells W k - ra)
/-- The first one of some cells that finds something by a rule, and what it finds. -/
def fstM (cells : List UInt8) (W : Nat) (na : List Nat) (ra : Int) : List Nat → Nat × (List Nat × List Nat)
  | [] => (0, ([], []))
  | k :: r => if fnd (pairAt cells W na ra k) = true then (k, pairAt cells W na ra k) else fstM cells W na ra r
theorem fst_cel (cells : List UInt8) (W : Nat) (na : List Nat) (ra : Int) : ∀ ks : List Nat, Cel cells.length (fstM cells W na ra ks).2.1 ∧ Cel cells.length (fstM cells W na ra ks).2.2
  | [] => ⟨Cel.nil _, Cel.nil _⟩
  | k :: r => by
    unfold fstM
    split
    · exact pairL_cel _ (Cel.near _ _ _ _)
    · exact fst_cel cells W na ra r
theorem fnd_mask {n : Nat} {p : List Nat × List Nat} (hn : n ≤ 64) (h1 : Cel n p.1) (h2 : Cel n p.2) : fnd p = !(maskM p.1 == 0 && maskM p.2 == 0) := by
  have e1 := maskM_zero (xs := p.1) (fun c hc => by have := h1.lt c hc; omega)
  have e2 := maskM_zero (xs := p.2) (fun c hc => by have := h2.lt c hc; omega)
  have q : ∀ (l : List Nat) (m : Nat), (m = 0 ↔ l = []) → l.isEmpty = (m == 0) := fun l m h => by
    cases l with
    | nil => rw [h.2 rfl]; rfl
    | cons x r => have : ¬ m = 0 := fun q => by have := h.1 q; cases this
                  simp [this]
  rw [fnd, q _ _ e1, q _ _ e2]

set_option maxRecDepth 100000 in
set_option maxHeartbeats 3200000 in
theorem first_any (W : Nat) (cells : List UInt8) (hn : cells.length ≤ 64) (na : List Nat) (ha : Cel cells.length na) (fc ra : Int) (hra : -100 ≤ ra ∧ ra ≤ 300) (g : Nat) (B : Nat) (a : Option Addr) (cap : Nat) (w : World)
    (hG : w.heap[g]? = some (.cells #[.int .i64 fc, .int .i64 ra, .int .u64 (maskM na : Nat)] 51 (0, 0))) (hown : Own3 w B (.slice a (openL cells W).length cap) (openL cells W)) :
    Calls Tryd.prog 35 #[.func (.func 56) #[] #[.pointer (some ⟨g, 0, none⟩)], .slice a (openL cells W).length cap] w fun e w' => e = .returned (.tuple #[.int .i64 ((fstM cells W na ra (opens cells)).1 : Nat), fdV (fstM cells W na ra (opens cells)).2.1 (fstM cells W na ra (opens cells)).2.2]) ∧ Below w.heap.size w w' := by
  have HLEN : Hid ((openL cells W).length = (opens cells).length) := by rw [Hid, openL, List.length_map]
  have HGET : Hid (∀ k (h : k < (opens cells).length) (h2 : k < (openL cells W).length), (openL cells W)[k] = ((opens cells)[k], restM cells W (opens cells)[k], maskM (nrS cells W (opens cells)[k] 63))) := by
    intro k h h2
    simp [openL, ocT]
  have hopl : (opens cells).length ≤ 64 := by
    refine Nat.le_trans (List.length_filter_le _ _) ?_
    rw [List.length_range]
    exact hn
  rw [HLEN.out] at hown ⊢
  generalize openL cells W = OL at *
  generalize opens cells = ks at *
  have hR0 := heap_alloc_new w (.cells #[.int .u64 0, .int .u64 0] 55)
  have hb0 : Below w.heap.size w (w.alloc (.cells #[.int .u64 0, .int .u64 0] 55)) := (Below.refl _ _).alloc (Nat.le_refl _) _
  have hG0 := (hb0.block g (block_lt hG)).trans hG
  have hown0 := hown.later hb0
  have hs0 : w.heap.size < (w.alloc (.cells #[.int .u64 0, .int .u64 0] 55)).heap.size := by simp
  have hglt := block_lt hG
  clear hG hown
  go_enter Tryd.func35, Tryd.ntmps35
  go_wp2_with fail
  generalize w.alloc (.cells #[.int .u64 0, .int .u64 0] 55) = w0 at *
  have HR0 := Lib.hid hR0
  have HG0 := Lib.hid hG0
  clear hR0 hG0
  go_loopw [11] (fun i wr => ∃ k : Nat, k ≤ ks.length ∧ i = .int .i64 k ∧ Below w0.heap.size w0 wr ∧ Hid (fstM cells W na ra ks = fstM cells W na ra (ks.drop k))) (fun i _ => ks.length - (intOf i).toNat)
  case atStart => exact ⟨0, Nat.zero_le _, rfl, Below.refl _ _, rfl⟩
  case round =>
    obtain ⟨k, hk, rfl, hbr, hF⟩ := hrel
    have sr := hbr.size
    by_cases hlt : k < ks.length
    · have hltO : k < OL.length := by rw [HLEN.out]; exact hlt
      have HD : Hid (fstM cells W na ra (ks.drop k) = if fnd (pairAt cells W na ra ks[k]) = true then (ks[k], pairAt cells W na ra ks[k]) else fstM cells W na ra (ks.drop (k + 1))) := by rw [Hid, List.drop_eq_getElem_cons hlt, fstM]
      obtain ⟨q, hga, c0, c1, c2⟩ := (hown0.later hbr).at k hltO
      subst hga
      rw [HGET.out k hlt hltO] at c0 c1 c2
      simp only at c0 c1 c2
      have hGr := (hbr.block g (by omega)).trans HG0.out
      have hcl := pairL_cel (na := na) (restM cells W ks[k] - ra) (Cel.near cells W ks[k] 63)
      have hfm := fnd_mask (p := pairAt cells W na ra ks[k]) hn hcl.1 hcl.2
      have hrk := rest_range cells W ks[k] hn
      have HP1 := Lib.hid (fun w h => pair1_any cells.length hn na (nrS cells W ks[k] 63) ha (Cel.near cells W ks[k] 63) fc ks[k] ra (restM cells W ks[k]) g w hra hrk h)
      have HPA : Hid (pairAt cells W na ra ks[k] = pairL na (nrS cells W ks[k] 63) (restM cells W ks[k] - ra)) := rfl
      have HFD : Hid (∀ p : List Nat × List Nat, fdV p.1 p.2 = .agg #[.int .u64 (maskM p.1 : Nat), .int .u64 (maskM p.2 : Nat)]) := fun _ => rfl
      rw [HFD.out, ← HPA.out] at HP1
      have HR1 := Lib.hid ((hbr.block _ hs0).trans HR0.out)
      generalize ks[k] = x at *
      generalize pairAt cells W na ra x = P at *
      generalize restM cells W x = rk at *
      generalize maskM (nrS cells W x 63) = mk at *
      have hba : Below wr.heap.size wr (wr.alloc (.cells #[.int .i64 x, .int .i64 rk, .int .u64 mk] 51)) := (Below.refl _ _).alloc (Nat.le_refl _) _
      have hPa := heap_alloc_new wr (.cells #[.int .i64 x, .int .i64 rk, .int .u64 mk] 51)
      have HPX := Lib.hid (HP1.out _ ((hba.block g (by omega)).trans hGr))
      have hbx := hbr.trans (hba.mono sr)
      clear hcl hrk hGr HP1
      have hPa0 : ∀ w', Below (wr.alloc (.cells #[.int .i64 x, .int .i64 rk, .int .u64 mk] 51)).heap.size (wr.alloc (.cells #[.int .i64 x, .int .i64 rk, .int .u64 mk] 51)) w' → w'.heap[wr.heap.size]? = some (.cells #[.int .i64 x, .int .i64 rk, .int .u64 mk] 51 (0, 0)) := fun w' h => (h.block _ (by simp)).trans hPa
      have hR3 : ∀ w', Below (wr.alloc (.cells #[.int .i64 x, .int .i64 rk, .int .u64 mk] 51)).heap.size (wr.alloc (.cells #[.int .i64 x, .int .i64 rk, .int .u64 mk] 51)) w' → w'.heap[w.heap.size]? = some (.cells #[.int .u64 0, .int .u64 0] 55 (0, 0)) := fun w' h => (h.block _ (by simp; omega)).trans ((hba.block _ (by omega)).trans HR1.out)
      have HPA0 := Lib.hid hPa0
      have HR3 := Lib.hid hR3
      have HBX := Lib.hid hbx
      have hsz0 : (wr.alloc (.cells #[.int .i64 x, .int .i64 rk, .int .u64 mk] 51)).heap.size = wr.heap.size + 1 := by simp
      generalize hm1 : maskM P.1 = m1 at *
      generalize hm2 : maskM P.2 = m2 at *
      have HM1 := Lib.hid hm1
      have HM2 := Lib.hid hm2
      clear hPa hba hPa0 hR3 hbx hm1 hm2
      by_cases hf : m1 = 0 ∧ m2 = 0
      · obtain ⟨rfl, rfl⟩ := hf
        have HN : Hid (fnd P = false) := by rw [Hid, hfm]; rfl
        clear hfm
        go_wp2_with (go_at_call 56; refine HPX.out.mono ?_; rintro e w3 ⟨rfl, hb3⟩)
        have hb4 := HBX.out.trans (hb3.mono HBX.out.size)
        go_roundw
        case rel => exact ⟨k + 1, by omega, by go_num, hb4.alloc hb4.size _, by rw [Hid, hF.out, HD.out, if_neg (by rw [HN.out]; decide)]⟩
        case measure => simp [intOf]; omega
      · have HY : Hid (fnd P = true) := by
          rw [Hid, hfm]
          simp only [Bool.not_eq_true', Bool.and_eq_false_iff, beq_eq_false_iff_ne]
          omega
        have HFIN : Hid (fstM cells W na ra ks = (x, P)) := by rw [Hid, hF.out, HD.out, if_pos HY.out]
        clear hfm
        have hcase : (¬ ((m1 : Int) = 0)) ∨ (m1 = 0 ∧ ¬ ((m2 : Int) = 0)) := by omega
        clear hf
        rcases hcase with n1 | ⟨rfl, n2⟩
        · have n1' : ((m1 : Int) == 0) = false := by simpa using n1
          go_wp2_with (go_at_call 56; refine HPX.out.mono ?_; rintro e w3 ⟨rfl, hb3⟩)
          have hP3 := HPA0.out w3 hb3
          have hR3 := HR3.out w3 hb3
          have hb4 := (HBX.out.trans (hb3.mono HBX.out.size)).alloc (HBX.out.trans (hb3.mono HBX.out.size)).size (.cells #[.int .u64 m1, .int .u64 m2] 55)
          have hX4 := heap_alloc_new w3 (.cells #[.int .u64 m1, .int .u64 m2] 55)
          have hP4 := (Below.heap_alloc w3 (.cells #[.int .u64 m1, .int .u64 m2] 55) _ (block_lt hP3)).trans hP3
          have hR4 := (Below.heap_alloc w3 (.cells #[.int .u64 m1, .int .u64 m2] 55) _ (block_lt hR3)).trans hR3
          generalize w3.alloc (.cells #[.int .u64 m1, .int .u64 m2] 55) = w4 at *
          have p0 : w4.cell? ⟨wr.heap.size, 0, none⟩ = some (.int .i64 x) := by rw [cell_of_block hP4]; rfl
          have x0 : w4.cell? ⟨w3.heap.size, 0, none⟩ = some (.int .u64 m1) := by rw [cell_of_block hX4]; rfl
          have x1 : w4.cell? ⟨w3.heap.size, 1, none⟩ = some (.int .u64 m2) := by rw [cell_of_block hX4]; rfl
          have r0 : w4.cell? ⟨w.heap.size, 0, none⟩ = some (.int .u64 0) := by rw [cell_of_block hR4]; rfl
          have r1 : w4.cell? ⟨w.heap.size, 1, none⟩ = some (.int .u64 0) := by rw [cell_of_block hR4]; rfl
          have q0 := frozen_of_block hR4 0
          have q1 := frozen_of_block hR4 1
          have HR4 := Lib.hid hR4
          have hrlt := block_lt hR4
          have hplt := block_lt hP4
          have hxlt := block_lt hX4
          clear hP3 hR3 hb3 hP4 hX4 hR4
          go_region
          go_wp2_with fail
          have b2 := block_set (block_set HR4.out 0 (.int .u64 m1)) 1 (.int .u64 m2)
          refine bodyPost_ret (v := .tuple #[.int .i64 x, .agg #[.int .u64 m1, .int .u64 m2]]) ?_ rfl ?_
          · have z0 := cell_of_block b2 0
            have z1 := cell_of_block b2 1
            simp at z0 z1
            simp [results, Tryd.results35, go_sem, z0, z1]
          · exact ⟨by (rw [HFIN.out, HFD.out, HM1.out, HM2.out]) <;> rfl, toDrew ((hb0.trans (hb4.mono (by omega))).trans (((Below.set 0 _).trans (Below.set 1 _)).mono (Nat.le_refl _)))⟩
        · have n2' : ((m2 : Int) == 0) = false := by simpa using n2
          go_wp2_with (go_at_call 56; refine HPX.out.mono ?_; rintro e w3 ⟨rfl, hb3⟩)
          have hP3 := HPA0.out w3 hb3
          have hR3 := HR3.out w3 hb3
          have hb4 := (HBX.out.trans (hb3.mono HBX.out.size)).alloc (HBX.out.trans (hb3.mono HBX.out.size)).size (.cells #[.int .u64 0, .int .u64 m2] 55)
          have hX4 := heap_alloc_new w3 (.cells #[.int .u64 0, .int .u64 m2] 55)
          have hP4 := (Below.heap_alloc w3 (.cells #[.int .u64 0, .int .u64 m2] 55) _ (block_lt hP3)).trans hP3
          have hR4 := (Below.heap_alloc w3 (.cells #[.int .u64 0, .int .u64 m2] 55) _ (block_lt hR3)).trans hR3
          generalize w3.alloc (.cells #[.int .u64 0, .int .u64 m2] 55) = w4 at *
          have p0 : w4.cell? ⟨wr.heap.size, 0, none⟩ = some (.int .i64 x) := by rw [cell_of_block hP4]; rfl
          have x0 : w4.cell? ⟨w3.heap.size, 0, none⟩ = some (.int .u64 0) := by rw [cell_of_block hX4]; rfl
          have x1 : w4.cell? ⟨w3.heap.size, 1, none⟩ = some (.int .u64 m2) := by rw [cell_of_block hX4]; rfl
          have r0 : w4.cell? ⟨w.heap.size, 0, none⟩ = some (.int .u64 0) := by rw [cell_of_block hR4]; rfl
          have r1 : w4.cell? ⟨w.heap.size, 1, none⟩ = some (.int .u64 0) := by rw [cell_of_block hR4]; rfl
          have q0 := frozen_of_block hR4 0
          have q1 := frozen_of_block hR4 1
          have HR4 := Lib.hid hR4
          have hrlt := block_lt hR4
          have hplt := block_lt hP4
          have hxlt := block_lt hX4
          clear hP3 hR3 hb3 hP4 hX4 hR4
          go_region
          go_wp2_with fail
          have b2 := block_set (block_set HR4.out 0 (.int .u64 0)) 1 (.int .u64 m2)
          refine bodyPost_ret (v := .tuple #[.int .i64 x, .agg #[.int .u64 0, .int .u64 m2]]) ?_ rfl ?_
          · have z0 := cell_of_block b2 0
            have z1 := cell_of_block b2 1
            simp at z0 z1
            simp [results, Tryd.results35, go_sem, z0, z1]
          · exact ⟨by (rw [HFIN.out, HFD.out, HM1.out, HM2.out]) <;> rfl, toDrew ((hb0.trans (hb4.mono (by omega))).trans (((Below.set 0 _).trans (Below.set 1 _)).mono (Nat.le_refl _)))⟩
    · obtain rfl : k = ks.length := by omega
      have hRr := (hbr.block _ hs0).trans HR0.out
      have r0 := cell_of_block hRr 0
      have r1 := cell_of_block hRr 1
      simp at r0 r1
      have q0 := frozen_of_block hRr 0
      have q1 := frozen_of_block hRr 1
      have HRr := Lib.hid hRr
      have hrlt := block_lt hRr
      have HFIN : Hid (fstM cells W na ra ks = (0, ([], []))) := by rw [Hid, hF.out, List.drop_length]; rfl
      clear hRr
      go_wp2_with fail
      have b2 := block_set (block_set HRr.out 0 (.int .u64 0)) 1 (.int .u64 0)
      refine bodyPost_ret (v := .tuple #[.int .i64 0, .agg #[.int .u64 0, .int .u64 0]]) ?_ rfl ?_
      · have z0 := cell_of_block b2 0
        have z1 := cell_of_block b2 1
        simp at z0 z1
        simp [results, Tryd.results35, go_sem, z0, z1]
      · exact ⟨by rw [HFIN.out]; rfl, (hb0.trans (hbr.mono (by omega))).trans (((Below.set 0 _).trans (Below.set 1 _)).mono (Nat.le_refl _))⟩
end Go.Proofs.YthlbplmghjaeoacDoor
