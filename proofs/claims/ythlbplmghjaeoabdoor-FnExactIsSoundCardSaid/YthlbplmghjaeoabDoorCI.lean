/- Notes: whether they are sound, by the program. -/
import Derived.Test.YthlbplmghjaeoabDoorCH
import Derived.Outline
namespace Go.Proofs.YthlbplmghjaeoabDoor
open Go.RowKit

/-- Is the rest of an open cell at least 0 and at most as many as it has unknown neighbours? Are all? -/
def okR (cells : List UInt8) (W k : Nat) : Bool := decide (0 ≤ restM cells W k) && decide (restM cells W k ≤ ((nrS cells W k 63).length : Int))
def soundM (cells : List UInt8) (W : Nat) : Bool := (List.range cells.length).all fun k => !opB cells k || okR cells W k
theorem sound_opens (cells : List UInt8) (W : Nat) : soundM cells W = (opens cells).all (okR cells W) := by
  rw [soundM, opens, List.all_filter]
theorem rest_range (cells : List UInt8) (W k : Nat) (h64 : cells.length ≤ 64) : -100 ≤ restM cells W k ∧ restM cells W k ≤ 300 := by
  have h1 := nrS_le cells W k 42
  have h2 : (cells.getD k 0).toNat < 256 := UInt8.toNat_lt _
  unfold restM
  omega

set_option maxRecDepth 100000 in
set_option maxHeartbeats 3200000 in
theorem isSound_any (W H : Nat) (cells : List UInt8) (w : World) (hW : 0 < cells.length → 1 ≤ W) (hn : cells.length ≤ 64) :
    Calls Tryd.prog 55 #[ntV W H cells] w fun e w' => e = .returned (.bool (soundM cells W)) ∧ Below w.heap.size w w' := by
  rw [sound_opens]
  have HOC := Lib.hid (fun w => openCells_any W H cells w hW hn)
  have HLEN : Hid ((openL cells W).length = (opens cells).length) := by rw [Hid, openL, List.length_map]
  have HGET : Hid (∀ k (h : k < (opens cells).length) (h2 : k < (openL cells W).length), (openL cells W)[k] = ((opens cells)[k], restM cells W (opens cells)[k], maskM (nrS cells W (opens cells)[k] 63))) := by
    intro k h h2
    simp [openL, ocT]
  have hopl : (opens cells).length ≤ 64 := by
    refine Nat.le_trans (List.length_filter_le _ _) ?_
    rw [List.length_range]
    exact hn
  unfold ntV at *
  have hb0 : Below w.heap.size w (w.alloc (.cells #[.int .i64 W, .int .i64 H, .string ⟨cells.toArray⟩] 44)) := (Below.refl _ _).alloc (Nat.le_refl _) _
  go_enter Tryd.func55, Tryd.ntmps55
  go_wp2_with fail
  generalize w.alloc (.cells #[.int .i64 W, .int .i64 H, .string ⟨cells.toArray⟩] 44) = w0 at *
  refine (HOC.out _).mono ?_
  rintro e w1 ⟨a, cap, rfl, hown, hb⟩
  have hbw := hb0.trans (hb.mono hb0.size)
  rw [HLEN.out] at hown ⊢
  clear hb hb0
  generalize openL cells W = OL at *
  generalize hke : opens cells = ks at *
  have HKE := Lib.hid hke
  clear hke
  go_wp2_with fail
  go_loopw [8] (fun i wr => ∃ k : Nat, k ≤ ks.length ∧ i = .int .i64 k ∧ Below w1.heap.size w1 wr ∧ Hid (ks.all (okR cells W) = (ks.drop k).all (okR cells W))) (fun i _ => ks.length - (intOf i).toNat)
  case atStart => exact ⟨0, Nat.zero_le _, rfl, Below.refl _ _, rfl⟩
  case round =>
    obtain ⟨k, hk, rfl, hbr, hR⟩ := hrel
    have sr := hbr.size
    by_cases hlt : k < ks.length
    · have hltO : k < OL.length := by rw [HLEN.out]; exact hlt
      have HD : Hid ((ks.drop k).all (okR cells W) = (okR cells W ks[k] && (ks.drop (k + 1)).all (okR cells W))) := by rw [Hid, List.drop_eq_getElem_cons hlt, List.all_cons]
      obtain ⟨g, hga, c0, c1, c2⟩ := (hown.later hbr).at k hltO
      subst hga
      rw [HGET.out k hlt hltO] at c0 c1 c2
      obtain ⟨hr1, hr2⟩ := rest_range cells W ks[k] hn
      have HM := Lib.hid (nrS_mask (cells := cells) W ks[k] 63 hn)
      have hml := nrS_mlt (cells := cells) W ks[k] 63 hn
      have hnl := nrS_le cells W ks[k] 63
      have HOK : Hid (okR cells W ks[k] = (decide (0 ≤ restM cells W ks[k]) && decide (restM cells W ks[k] ≤ ((nrS cells W ks[k] 63).length : Int)))) := rfl
      generalize ks[k] = x at *
      generalize restM cells W x = rk at *
      generalize nrS cells W x 63 = nk at *
      have hac := fun w => areaCount_any (maskM nk) w hml
      rw [HM.out] at hac
      have HAC := Lib.hid (fun w => (hac w).mono fun e w' h => (show e = .returned (.int .i64 (nk.length : Nat)) ∧ w' = w from ⟨h.1, h.2.symm⟩))
      clear hac
      generalize maskM nk = mk at *
      generalize nk.length = nl at *
      simp only at c0 c1 c2
      have hba : Below wr.heap.size wr (wr.alloc (.cells #[.int .i64 x, .int .i64 rk, .int .u64 mk] 61)) := (Below.refl _ _).alloc (Nat.le_refl _) _
      have hPa := heap_alloc_new wr (.cells #[.int .i64 x, .int .i64 rk, .int .u64 mk] 61)
      have p1 : (wr.alloc (.cells #[.int .i64 x, .int .i64 rk, .int .u64 mk] 61)).cell? ⟨wr.heap.size, 1, none⟩ = some (.int .i64 rk) := by rw [cell_of_block hPa]; rfl
      have p2 : (wr.alloc (.cells #[.int .i64 x, .int .i64 rk, .int .u64 mk] 61)).cell? ⟨wr.heap.size, 2, none⟩ = some (.int .u64 mk) := by rw [cell_of_block hPa]; rfl
      have hbx := Lib.hid (hbr.trans (hba.mono sr))
      clear hba hPa hml HM
      by_cases h1 : rk < 0
      · have HF : Hid (okR cells W x = false) := by rw [Hid, HOK.out]; simp; omega
        have hd : decide (rk < 0) = true := by simpa using h1
        clear HOK
        go_wp2_with fail
        generalize wr.alloc (.cells #[.int .i64 x, .int .i64 rk, .int .u64 mk] 61) = w2 at *
        go_quiet (fail)
        go_wp2_with fail
        go_ret
        exact ⟨by rw [HKE.out, hR.out, HD.out, HF.out]; rfl, below_drewN (hbw.trans (hbx.out.mono hbw.size)) _⟩
      · have hd : decide (rk < 0) = false := by simpa using h1
        by_cases h2 : rk ≤ (nl : Int)
        · have HF : Hid (okR cells W x = true) := by rw [Hid, HOK.out]; simp; omega
          have hd2 : decide (rk > (nl : Int)) = false := by simp; omega
          clear HOK
          go_wp2_with fail
          generalize wr.alloc (.cells #[.int .i64 x, .int .i64 rk, .int .u64 mk] 61) = w2 at *
          go_quiet ((go_at_call 83; refine Calls.quiet_of_same (HAC.out _)))
          have hbq := below_drewN hbx.out nq
          go_wp2_with fail
          go_roundw
          case rel => exact ⟨k + 1, by omega, by go_num, hbq, by rw [Hid, hR.out, HD.out, HF.out]; rfl⟩
          case measure => simp [intOf]; omega
        · have HF : Hid (okR cells W x = false) := by rw [Hid, HOK.out]; simp; omega
          have hd2 : decide (rk > (nl : Int)) = true := by simp; omega
          clear HOK
          go_wp2_with fail
          generalize wr.alloc (.cells #[.int .i64 x, .int .i64 rk, .int .u64 mk] 61) = w2 at *
          go_quiet ((go_at_call 83; refine Calls.quiet_of_same (HAC.out _)))
          go_wp2_with fail
          go_ret
          exact ⟨by rw [HKE.out, hR.out, HD.out, HF.out]; rfl, below_drewN (hbw.trans (hbx.out.mono hbw.size)) _⟩
    · obtain rfl : k = ks.length := by omega
      go_wp2_with fail
      go_ret
      exact ⟨by rw [HKE.out, hR.out, List.drop_length]; rfl, hbw.trans (hbr.mono hbw.size)⟩
end Go.Proofs.YthlbplmghjaeoabDoor
