/- CN, CO, laid as one text. -/
import Derived.Test.YthlbplmghjaeoabDoorGCL
import Derived.Outline

/- Notes: what a single cell and a pair find, by the model. -/
namespace Go.Proofs.YthlbplmghjaeoabDoor
open Go.RowKit

set_option maxRecDepth 100000 in
set_option maxHeartbeats 1600000 in
theorem ruSingle_any (l : List UInt8) (W H : Nat) (cells : List UInt8) (hB : Grd l W H cells) (c : Nat) (hc : c < cells.length) (ho : opB cells c = true) (w : World) (hl : l.length ≤ 1048576) :
    Calls Tryd.prog 57 #[.string ⟨l.toArray⟩, .int .i64 c] w fun e w' => ∃ a1 c1 a2 c2, e = .returned (.tuple #[.slice a1 (singL (nrS cells W c 63) (restM cells W c)).1.length c1, .slice a2 (singL (nrS cells W c 63) (restM cells W c)).2.length c2])
      ∧ Owns w' w.heap.size 3 (.slice a1 (singL (nrS cells W c 63) (restM cells W c)).1.length c1) (nats (singL (nrS cells W c 63) (restM cells W c)).1) ∧ Owns w' w.heap.size 3 (.slice a2 (singL (nrS cells W c 63) (restM cells W c)).2.length c2) (nats (singL (nrS cells W c 63) (restM cells W c)).2) ∧ Below w.heap.size w w' := by
  have HRR := Lib.hid (fun w => ruRest_any l W H cells hB c hc ho w hl)
  have HNR := Lib.hid (fun w => ruNear_any l W H cells hB c hc 63 63 rfl w hl)
  have h64 := hB.n64
  have hr := rest_range cells W c h64
  have hnl := nrS_le cells W c 63
  have HS : Hid (singL (nrS cells W c 63) (restM cells W c) = if restM cells W c = 0 then ([], nrS cells W c 63) else if restM cells W c = ((nrS cells W c 63).length : Int) then (nrS cells W c 63, []) else ([], [])) := rfl
  generalize singL (nrS cells W c 63) (restM cells W c) = P at *
  generalize nrS cells W c 63 = nk at *
  generalize restM cells W c = rk at *
  clear hB
  by_cases h0 : rk = 0
  · subst h0
    rw [if_pos rfl] at HS
    go_enter Tryd.func57, Tryd.ntmps57
    go_wp2_with fail
    refine (HNR.out _).mono ?_
    rintro e w1 ⟨a, cap, rfl, hown, hb⟩
    have s1 := hb.size
    go_wp2_with fail
    refine (HRR.out _).mono ?_
    rintro e w2 ⟨rfl, hb2⟩
    go_wp2_with fail
    go_ret2
    exact ⟨none, 0, a, cap, by rw [HS.out]; rfl, by rw [HS.out]; exact Owns.nil _ _ _, by rw [HS.out]; exact hown.later hb2, hb.trans (hb2.mono s1)⟩
  · have e0 : ((rk : Int) == 0) = false := by simp [h0]
    rw [if_neg h0] at HS
    by_cases h1 : rk = (nk.length : Int)
    · have e1 : ((rk : Int) == (nk.length : Int)) = true := by simp [h1]
      rw [if_pos h1] at HS
      clear h0 h1
      go_enter Tryd.func57, Tryd.ntmps57
      go_wp2_with fail
      refine (HNR.out _).mono ?_
      rintro e w1 ⟨a, cap, rfl, hown, hb⟩
      have s1 := hb.size
      go_wp2_with fail
      refine (HRR.out _).mono ?_
      rintro e w2 ⟨rfl, hb2⟩
      go_wp2_with fail
      go_ret2
      exact ⟨a, cap, none, 0, by rw [HS.out]; rfl, by rw [HS.out]; exact hown.later hb2, by rw [HS.out]; exact Owns.nil _ _ _, hb.trans (hb2.mono s1)⟩
    · have e1 : ((rk : Int) == (nk.length : Int)) = false := by simp [h1]
      rw [if_neg h1] at HS
      clear h0 h1
      go_enter Tryd.func57, Tryd.ntmps57
      go_wp2_with fail
      refine (HNR.out _).mono ?_
      rintro e w1 ⟨a, cap, rfl, hown, hb⟩
      have s1 := hb.size
      go_wp2_with fail
      refine (HRR.out _).mono ?_
      rintro e w2 ⟨rfl, hb2⟩
      go_wp2_with fail
      go_ret2
      exact ⟨none, 0, none, 0, by rw [HS.out]; rfl, by rw [HS.out]; exact Owns.nil _ _ _, by rw [HS.out]; exact Owns.nil _ _ _, hb.trans (hb2.mono s1)⟩

theorem filt_drop (p : Nat → Bool) (N : List Nat) (k : Nat) (hk : k < N.length) : (N.drop k).filter p = if p N[k] = true then N[k] :: (N.drop (k + 1)).filter p else (N.drop (k + 1)).filter p := by
  rw [List.drop_eq_getElem_cons hk, List.filter_cons]

end Go.Proofs.YthlbplmghjaeoabDoor

/- Notes: the first single cell that finds something, by the model. -/
namespace Go.Proofs.YthlbplmghjaeoabDoor
open Go.RowKit

/-- The open cells from a number on. -/
def opR (cells : List UInt8) (k : Nat) : List Nat := (List.range' k (cells.length - k)).filter (opB cells)
theorem opR_yes {cells : List UInt8} {k : Nat} (hk : k < cells.length) (h : opB cells k = true) : opR cells k = k :: opR cells (k + 1) := by
  rw [opR, show cells.length - k = (cells.length - (k + 1)) + 1 by omega, List.range'_succ, List.filter_cons, if_pos h, opR]
theorem opR_no {cells : List UInt8} {k : Nat} (hk : k < cells.length) (h : opB cells k = false) : opR cells k = opR cells (k + 1) := by
  rw [opR, show cells.length - k = (cells.length - (k + 1)) + 1 by omega, List.range'_succ, List.filter_cons, if_neg (by rw [h]; decide), opR]
theorem opR_zero (cells : List UInt8) : opR cells 0 = opens cells := by rw [opR, opens, List.range_eq_range', Nat.sub_zero]
theorem opR_end (cells : List UInt8) : opR cells cells.length = [] := by rw [opR, Nat.sub_self]; rfl
theorem fst_fnd (cells : List UInt8) (W : Nat) (na : List Nat) (ra : Int) : ∀ ks : List Nat, fnd (fstM cells W na ra ks).2 = false → (fstM cells W na ra ks).1 = 0
  | [], _ => rfl
  | k :: r, h => by
    unfold fstM at h ⊢
    by_cases hf : fnd (pairAt cells W na ra k) = true
    · rw [if_pos hf] at h; rw [hf] at h; cases h
    · rw [if_neg hf] at h ⊢
      exact fst_fnd cells W na ra r h
theorem pairAt_sing (cells : List UInt8) (W k : Nat) : pairAt cells W [] 0 k = singL (nrS cells W k 63) (restM cells W k) := by
  rw [pairAt, pair_sing, Int.sub_zero]
theorem fnd_len (p : List Nat × List Nat) : fnd p = decide ((p.1.length : Int) + (p.2.length : Int) > 0) := by
  obtain ⟨a, b⟩ := p
  cases a <;> cases b <;> simp [fnd] <;> omega

end Go.Proofs.YthlbplmghjaeoabDoor
