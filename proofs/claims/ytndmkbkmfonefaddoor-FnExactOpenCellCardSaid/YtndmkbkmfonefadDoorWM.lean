/- Views: whether a board fits, by the model. -/
import Derived.Test.YtndmkbkmfonefadDoorWK
import Derived.Outline
namespace Go.Proofs.YtndmkbkmfonefadDoor
open Go.RowKit

/-- One cell of a view against a board's, as the model asks. -/
def vfB (vc bc : List UInt8) (W k : Nat) : Bool := (vc.getD k 0 == 63) || (!(bc.getD k 0 == 42) && (numM bc W k == (vc.getD k 0).toNat - 48))
theorem vf_no {vc bc : List UInt8} {W k : Nat} (hk : k < vc.length) (h : vfB vc bc W k = false) : viFitsM vc bc W = false := by
  cases hf : viFitsM vc bc W with
  | false => rfl
  | true => rw [← h]; exact (List.all_eq_true.1 hf k (List.mem_range.2 hk)).symm
theorem vf_yes {vc bc : List UInt8} {W : Nat} (h : ∀ k, k < vc.length → vfB vc bc W k = true) : viFitsM vc bc W = true :=
  List.all_eq_true.2 fun k hk => h k (List.mem_range.1 hk)
theorem vf_at {vc bc : List UInt8} {W k : Nat} (hk : k < vc.length) (hk2 : k < bc.length) : vfB vc bc W k = ((vc[k] == 63) || (!(bc[k] == 42) && (numM bc W k == vc[k].toNat - 48))) := by
  simp [vfB, List.getD, hk, hk2]

theorem wrap_dig (n : Nat) (h : 48 ≤ n) (h2 : n ≤ 56) : IntKind.i64.wrap (IntKind.u8.wrap ((n : Int) - 48)) = ((n - 48 : Nat) : Int) := by
  have e : IntKind.u8.wrap ((n : Int) - 48) = ((n : Int) - 48) % 256 := by simp [IntKind.wrap, IntKind.bits, IntKind.signed]
  have e2 : ((n : Int) - 48) % 256 = ((n - 48 : Nat) : Int) := by omega
  rw [e, e2]
  exact IntWalk.i64_in _ ⟨by omega, by omega⟩

set_option maxRecDepth 100000 in
set_option maxHeartbeats 800000 in
theorem viSame_any (l m : List UInt8) (w : World) (hl : l.length ≤ 1048576) (hm : m.length ≤ 1048576) :
    Calls Tryd.prog 60 #[.string ⟨l.toArray⟩, .string ⟨m.toArray⟩] w fun e w' => e = .returned (.bool (((boSizeM l).1 == (boSizeM m).1) && ((boSizeM l).2 == (boSizeM m).2))) ∧ Below w.heap.size w w' := by
  generalize hW : (boSizeM l).1 = W
  generalize hH : (boSizeM l).2 = H
  generalize hX : (boSizeM m).1 = X
  generalize hY : (boSizeM m).2 = Y
  have h1 := fun w => boSize_any l w hl
  have h2 := fun w => boSize_any m w hm
  rw [hW, hH] at h1
  rw [hX, hY] at h2
  clear hW hH hX hY
  by_cases c1 : W = X
  · subst c1
    have e : Hid (((W == W) && (H == Y)) = (H == Y)) := by rw [Hid, beq_self_eq_true, Bool.true_and]
    have d1 : ((W : Int) == (W : Int)) = true := by simp
    have d2 : ((H : Int) == (Y : Int)) = (H == Y) := by
      by_cases h : H = Y
      · subst h; simp
      · rw [beq_eq_false_iff_ne.2 h, beq_eq_false_iff_ne.2 (by omega)]
    have D2 := Lib.hid d2
    clear d2
    go_enter Tryd.func60, Tryd.ntmps60
    go_wp2_with fail
    refine (h1 _).mono ?_
    rintro e w1 ⟨rfl, hb1⟩
    go_wp2_with fail
    refine (h2 _).mono ?_
    rintro e w2 ⟨rfl, hb2⟩
    go_wp2_with fail
    go_ret
    exact ⟨by rw [e.out, ← D2.out]; rfl, hb1.trans (hb2.mono hb1.size)⟩
  · have e : Hid (((W == X) && (H == Y)) = false) := by rw [Hid, beq_eq_false_iff_ne.2 c1, Bool.false_and]
    have d1 : ((W : Int) == (X : Int)) = false := by simp; omega
    clear c1
    go_enter Tryd.func60, Tryd.ntmps60
    go_wp2_with fail
    refine (h1 _).mono ?_
    rintro e w1 ⟨rfl, hb1⟩
    go_wp2_with fail
    refine (h2 _).mono ?_
    rintro e w2 ⟨rfl, hb2⟩
    go_wp2_with fail
    go_ret
    exact ⟨by rw [e.out]; rfl, hb1.trans (hb2.mono hb1.size)⟩

set_option maxRecDepth 100000 in
set_option maxHeartbeats 1600000 in
theorem viFits_any (vc bc : List UInt8) (W H : Nat) (w : World) (hW : 1 ≤ W ∧ W ≤ 8) (hH : H ≤ 8) (hn : vc.length = W * H) (hbl : bc.length = vc.length) (hsg : ∀ c ∈ vc, viewSign c = true) (h64 : vc.length ≤ 64) :
    Calls Tryd.prog 61 #[.string ⟨vc.toArray⟩, .string ⟨bc.toArray⟩, .int .i64 W] w fun e w' => e = .returned (.bool (viFitsM vc bc W)) ∧ Below w.heap.size w w' := by
  have hnm := fun w k h => boNumber_any W H bc k w hW hH (hbl.trans hn) h
  have HN := Lib.hid hn
  have HBL := Lib.hid hbl
  have HNM := Lib.hid hnm
  clear hnm hn hbl
  go_enter Tryd.func61, Tryd.ntmps61
  go_wp2_with fail
  have hI : (w.iter ⟨vc.toArray⟩ 0).heap[w.heap.size]? = some (.stringIter ⟨vc.toArray⟩ 0) := World.iter_heap w _ _
  have hbi : Below w.heap.size w (w.iter ⟨vc.toArray⟩ 0) := (Below.refl _ _).alloc (Nat.le_refl _) _
  have hsi : w.heap.size < (w.iter ⟨vc.toArray⟩ 0).heap.size := by simp [World.iter]
  generalize w.iter ⟨vc.toArray⟩ 0 = w4 at *
  go_loopw [7] (fun _ wr => ∃ k : Nat, k ≤ vc.length ∧ Hid (wr.heap[w.heap.size]? = some (.stringIter ⟨vc.toArray⟩ k)) ∧ Hid (∀ j, j < k → vfB vc bc W j = true) ∧ Below w.heap.size w4 wr) (fun _ wr => vc.length - wr.iterPos w.heap.size)
  case atStart => exact ⟨0, Nat.zero_le _, hI, fun j hj => absurd hj (by omega), Below.refl _ _⟩
  case round =>
    obtain ⟨k, hk, hIr, hall, hb⟩ := hrel
    have hIlt := block_lt hIr.out
    by_cases hlt : k < vc.length
    · have hlb : k < bc.length := by rw [HBL.out]; exact hlt
      have HF := Lib.hid (vf_at (W := W) hlt hlb)
      have hvs := hsg _ (List.getElem_mem hlt)
      have hasc : vc[k].toNat < 128 := by
        simp [viewSign, digSign] at hvs
        rcases hvs with h | h
        · rw [h]; decide
        · omega
      have hnx := fun ty => Lib.run_next_ascii_at (P := Tryd.prog) wr w.heap.size ⟨vc.toArray⟩ k ty hIr.out (by simpa [ByteArray.size] using hlt) (by simpa using hasc)
      have hpos := Lib.hid (iterPos_at hIr.out)
      have i1 := iterAt_at hIlt ⟨vc.toArray⟩ (k + 1)
      have i2 := iterAt_below wr w.heap.size ⟨vc.toArray⟩ (k + 1)
      have q1 := byte_beq vc[k] 63 (by omega)
      have q2 := byte_beq bc[k] 42 (by omega)
      by_cases c1 : (vc[k] == 63) = true
      · have d1 : ((vc[k].toNat : Int) == 63) = true := by rw [show ((63 : Int)) = ((63 : Nat) : Int) from rfl, q1]; simpa using c1
        rw [c1] at HF
        clear c1 q1 q2 hvs hasc
        go_wp2_with fail
        clear hnx
        generalize wr.iterAt w.heap.size ⟨vc.toArray⟩ (k + 1) = wi at *
        have ip := Lib.hid (iterPos_at i1)
        have I1 := Lib.hid i1
        clear i1
        go_wp2_with fail
        go_roundw
        case rel => exact ⟨k + 1, by omega, I1, fun j hj => (Nat.lt_succ_iff_lt_or_eq.1 hj).elim (hall.out j) (fun h => by rw [h, HF.out]; rfl), hb.trans i2⟩
        case measure => rw [hpos.out, ip.out]; omega
      · have d1 : ((vc[k].toNat : Int) == 63) = false := by rw [show ((63 : Int)) = ((63 : Nat) : Int) from rfl, q1]; simpa using c1
        have hdg : digSign vc[k] = true := by simpa [viewSign, show (vc[k] == 63) = false by simpa using c1] using hvs
        have hge : 48 ≤ vc[k].toNat := by simp [digSign] at hdg; omega
        have hle : vc[k].toNat ≤ 56 := by simp [digSign] at hdg; omega
        have hsub := Lib.hid (wrap_dig vc[k].toNat hge hle)
        rw [show (vc[k] == 63) = false by simpa using c1, Bool.false_or] at HF
        clear c1 q1 hvs hasc hdg
        by_cases c2 : (bc[k] == 42) = true
        · have d2 : ((bc[k].toNat : Int) == 42) = true := by rw [show ((42 : Int)) = ((42 : Nat) : Int) from rfl, q2]; simpa using c2
          rw [c2] at HF
          have hno := Lib.hid (vf_no hlt HF.out)
          clear c2 q2 hsub
          go_wp2_with fail
          clear hnx
          generalize wr.iterAt w.heap.size ⟨vc.toArray⟩ (k + 1) = wi at *
          go_quiet (fail)
          go_wp2_with fail
          go_ret
          exact ⟨by rw [hno.out]; rfl, below_drewN (hbi.trans (hb.trans i2)) _⟩
        · have d2 : ((bc[k].toNat : Int) == 42) = false := by rw [show ((42 : Int)) = ((42 : Nat) : Int) from rfl, q2]; simpa using c2
          rw [show (bc[k] == 42) = false by simpa using c2] at HF
          clear c2 q2
          have hnm := fun w => HNM.out w k hlb
          generalize numM bc W k = m at *
          have q3 : ((m : Int) == ((vc[k].toNat - 48 : Nat) : Int)) = (m == vc[k].toNat - 48) := by
            by_cases h : m = vc[k].toNat - 48
            · rw [← h]; simp
            · rw [beq_eq_false_iff_ne.2 h, beq_eq_false_iff_ne.2 (by omega)]
          have HM := Lib.hid hnm
          clear hnm
          cases he : (m == vc[k].toNat - 48) with
          | true =>
            rw [he] at HF q3
            have hd : ((m : Int) != IntKind.i64.wrap (IntKind.u8.wrap ((vc[k].toNat : Int) - 48))) = false := by rw [hsub.out, bne, q3]; rfl
            clear q3 he hsub
            go_wp2_with fail
            clear hnx
            generalize wr.iterAt w.heap.size ⟨vc.toArray⟩ (k + 1) = wi at *
            have hsz := Lib.hid (hb.trans i2).size
            go_region_held3 (fun _ => True) (trivial) ((go_at_call 50; refine (HM.out _).mono ?_; rintro e w5 ⟨rfl, hb5⟩))
            all_goals
              have hb5' : Below wi.heap.size wi w5 := ofDrew hb5
              have hsz5 := hb5'.size
              have i5 := (hb5'.block w.heap.size (by have := block_lt i1; omega)).trans i1
              have ip := Lib.hid (iterPos_at i5)
              have I5 := Lib.hid i5
              clear i5 hb5
              go_wp2_with fail
              go_roundw
              case rel => exact ⟨k + 1, by omega, I5, fun j hj => (Nat.lt_succ_iff_lt_or_eq.1 hj).elim (hall.out j) (fun h => by rw [h, HF.out]; rfl), (hb.trans i2).trans (hb5'.mono (by have := hsz.out; omega))⟩
              case measure => rw [hpos.out, ip.out]; omega
          | false =>
            rw [he] at HF q3
            have hd : ((m : Int) != IntKind.i64.wrap (IntKind.u8.wrap ((vc[k].toNat : Int) - 48))) = true := by rw [hsub.out, bne, q3]; rfl
            have hno := Lib.hid (vf_no hlt HF.out)
            clear q3 he hsub
            go_wp2_with fail
            clear hnx
            generalize wr.iterAt w.heap.size ⟨vc.toArray⟩ (k + 1) = wi at *
            have hsz := Lib.hid (hb.trans i2).size
            go_region_held3 (fun _ => True) (trivial) ((go_at_call 50; refine (HM.out _).mono ?_; rintro e w5 ⟨rfl, hb5⟩))
            all_goals
              have hb5' : Below wi.heap.size wi w5 := ofDrew hb5
              clear hb5
              go_wp2_with fail
              go_ret
              exact ⟨by rw [hno.out]; rfl, (hbi.trans (hb.trans i2)).trans (hb5'.mono (by have := hsz.out; have := hbi.size; omega))⟩
    · obtain rfl : k = vc.length := by omega
      have hnx := fun ty => Lib.run_next_end_at (P := Tryd.prog) wr w.heap.size ⟨vc.toArray⟩ vc.length ty hIr.out (by simp [ByteArray.size])
      go_wp2_with fail
      go_ret
      exact ⟨by rw [vf_yes hall.out]; rfl, hbi.trans hb⟩
end Go.Proofs.YtndmkbkmfonefadDoor
