/- Notes: whether a board agrees with them, by the model and by the program. -/
import Derived.Test.YthlbplmghjaeoabDoorCD
import Derived.Test.YthlbplmghjaeoabDoorC9
import Derived.Test.YthlbplmghjaeoabDoorT9
import Derived.Outline
namespace Go.Proofs.YthlbplmghjaeoabDoor
open Go.RowKit

theorem dig_eq9 (c : UInt8) (m : Nat) (hm : m ≤ 9) (hc : digSign c = true) : (c == digB m) = (m == c.toNat - 48) := by
  have h1 := digB_nat m (by omega)
  simp [digSign] at hc
  by_cases h : m = c.toNat - 48
  · have e : c = digB m := UInt8.toNat_inj.1 (by omega)
    rw [beq_iff_eq.2 e, beq_iff_eq.2 h]
  · have e : ¬ c = digB m := fun q => h (by rw [q, h1]; omega)
    rw [beq_eq_false_iff_ne.2 e, beq_eq_false_iff_ne.2 h]
/-- Does a board agree with a sign of notes in a cell? -/
def agS (c b : UInt8) (m : Nat) : Bool := if c == 63 then true else if c == 42 then b == 42 else (!(b == 42) && (!digSign c || (m == c.toNat - 48)))
def agB (vc bc : List UInt8) (W k : Nat) : Bool := agS (vc.getD k 0) (bc.getD k 0) (numM bc W k)
def agM (vc bc : List UInt8) (W : Nat) : Bool := (List.range vc.length).all (agB vc bc W)
theorem ag_no {vc bc : List UInt8} {W k : Nat} (hk : k < vc.length) (h : agB vc bc W k = false) : agM vc bc W = false := by
  cases ha : agM vc bc W with
  | false => rfl
  | true => rw [List.all_eq_true.1 ha k (List.mem_range.2 hk)] at h; cases h
theorem ag_yes {vc bc : List UInt8} {W : Nat} (h : ∀ k, k < vc.length → agB vc bc W k = true) : agM vc bc W = true :=
  List.all_eq_true.2 fun k hk => h k (List.mem_range.1 hk)
theorem ag_at {vc bc : List UInt8} {W k : Nat} (hk : k < vc.length) (hk2 : k < bc.length) : agB vc bc W k = agS vc[k] bc[k] (numM bc W k) := by
  have e1 : vc.getD k 0 = vc[k] := by simp [List.getD, hk]
  have e2 : bc.getD k 0 = bc[k] := by simp [List.getD, hk2]
  rw [agB, e1, e2]

set_option maxRecDepth 100000 in
set_option maxHeartbeats 3200000 in
theorem ruAgrees_any (l r : List UInt8) (vc bc : List UInt8) (W H : Nat) (w : World) (hB : Grd l W H vc) (hr : cellsM r = bc) (hbl : bc.length = vc.length) (hsg : ∀ c ∈ vc, noteSign c = true) (hl : l.length ≤ 1048576) (hl2 : r.length ≤ 1048576) :
    Calls Tryd.prog 51 #[.string ⟨l.toArray⟩, .string ⟨r.toArray⟩] w fun e w' => e = .returned (.bool (agM vc bc W)) ∧ Below w.heap.size w w' := by
  have hz := fun w => boSize_any l w hl
  rw [hB.size] at hz
  have hbc := fun w => boCells_any l w hl
  rw [hB.cs] at hbc
  have hbc2 := fun w => boCells_any r w hl2
  rw [hr] at hbc2
  have hnm := fun w k h => boNumber_any W H bc k w ⟨hB.w1, hB.w8⟩ hB.h8 (hbl.trans hB.len) h
  have h64 := hB.n64
  have HBL := Lib.hid hbl
  have HNM := Lib.hid hnm
  clear hnm hbl hB hr
  go_enter Tryd.func51, Tryd.ntmps51
  go_wp2_with fail
  refine (hz _).mono ?_
  rintro e w1 ⟨rfl, hb0⟩
  go_wp2_with fail
  refine (hbc _).mono ?_
  rintro e w2 ⟨rfl, rfl⟩
  go_wp2_with fail
  refine (hbc2 _).mono ?_
  rintro e w2 ⟨rfl, rfl⟩
  go_wp2_with fail
  have s1 := hb0.size
  have hI : (w1.iter ⟨vc.toArray⟩ 0).heap[w1.heap.size]? = some (.stringIter ⟨vc.toArray⟩ 0) := World.iter_heap w1 _ _
  have hbi : Below w1.heap.size w1 (w1.iter ⟨vc.toArray⟩ 0) := (Below.refl _ _).alloc (Nat.le_refl _) _
  have hsi : w1.heap.size < (w1.iter ⟨vc.toArray⟩ 0).heap.size := by simp [World.iter]
  have hbw : Below w.heap.size w (w1.iter ⟨vc.toArray⟩ 0) := hb0.trans (hbi.mono s1)
  generalize w1.iter ⟨vc.toArray⟩ 0 = w4 at *
  generalize hII : w1.heap.size = I at *
  clear hII hb0 hbi
  go_loopw [] (fun wr => ∃ k : Nat, k ≤ vc.length ∧ Hid (wr.heap[I]? = some (.stringIter ⟨vc.toArray⟩ k)) ∧ Hid (∀ j, j < k → agB vc bc W j = true) ∧ Below I w4 wr) (fun wr => vc.length - wr.iterPos I)
  case atStart => exact ⟨0, Nat.zero_le _, hI, fun j hj => absurd hj (by omega), Below.refl _ _⟩
  case round =>
    obtain ⟨k, hk, hIr, hall, hb⟩ := hrel
    have hIlt := block_lt hIr.out
    by_cases hlt : k < vc.length
    · have hlb : k < bc.length := by rw [HBL.out]; exact hlt
      have HF := Lib.hid (ag_at (W := W) hlt hlb)
      have hvs := hsg _ (List.getElem_mem hlt)
      have hasc := note_ascii hvs
      have hnx := fun ty => Lib.run_next_ascii_at (P := Tryd.prog) wr I ⟨vc.toArray⟩ k ty hIr.out (by simpa [ByteArray.size] using hlt) (by simpa using hasc)
      have hpos := Lib.hid (iterPos_at hIr.out)
      have i1 := iterAt_at hIlt ⟨vc.toArray⟩ (k + 1)
      have i2 := iterAt_below wr I ⟨vc.toArray⟩ (k + 1)
      have q1 := byte_beq vc[k] 63 (by omega)
      have q2 := byte_beq bc[k] 42 (by omega)
      have q3 := byte_beq vc[k] 42 (by omega)
      clear hvs hasc
      by_cases c1 : (vc[k] == 63) = true
      · have d1 : ((vc[k].toNat : Int) == 63) = true := by rw [show ((63 : Int)) = ((63 : Nat) : Int) from rfl, q1]; simpa using c1
        have HY := Lib.hid (show agB vc bc W k = true by rw [HF.out, agS, if_pos c1])
        clear c1 q1 q2 q3
        go_wp2_with fail
        clear hnx
        generalize wr.iterAt I ⟨vc.toArray⟩ (k + 1) = wi at *
        have ip := Lib.hid (iterPos_at i1)
        have I1 := Lib.hid i1
        clear i1
        go_wp2_with fail
        go_roundw
        case rel => exact ⟨k + 1, by omega, I1, fun j hj => (Nat.lt_succ_iff_lt_or_eq.1 hj).elim (hall.out j) (fun h => by rw [h, HY.out]), hb.trans i2⟩
        case measure => rw [hpos.out, ip.out]; omega
      · have d1 : ((vc[k].toNat : Int) == 63) = false := by rw [show ((63 : Int)) = ((63 : Nat) : Int) from rfl, q1]; simpa using c1
        by_cases c3 : (vc[k] == 42) = true
        · have d3 : ((vc[k].toNat : Int) == 42) = true := by rw [show ((42 : Int)) = ((42 : Nat) : Int) from rfl, q3]; simpa using c3
          have HY := Lib.hid (show agB vc bc W k = (bc[k] == 42) by rw [HF.out, agS, if_neg c1, if_pos c3])
          clear c1 c3 q1 q3
          by_cases c2 : (bc[k] == 42) = true
          · have d2 : ((bc[k].toNat : Int) != 42) = false := by rw [bne, show ((42 : Int)) = ((42 : Nat) : Int) from rfl, q2]; simpa using c2
            rw [c2] at HY
            clear c2 q2
            go_wp2_with fail
            clear hnx
            generalize wr.iterAt I ⟨vc.toArray⟩ (k + 1) = wi at *
            have ip := Lib.hid (iterPos_at i1)
            have I1 := Lib.hid i1
            clear i1
            go_wp2_with fail
            go_roundw
            case rel => exact ⟨k + 1, by omega, I1, fun j hj => (Nat.lt_succ_iff_lt_or_eq.1 hj).elim (hall.out j) (fun h => by rw [h, HY.out]), hb.trans i2⟩
            case measure => rw [hpos.out, ip.out]; omega
          · have c2' : (bc[k] == 42) = false := by simpa using c2
            have d2 : ((bc[k].toNat : Int) != 42) = true := by rw [bne, show ((42 : Int)) = ((42 : Nat) : Int) from rfl, q2]; simpa using c2
            rw [c2'] at HY
            have hno := Lib.hid (ag_no hlt HY.out)
            clear c2 c2' q2
            go_wp2_with fail
            clear hnx
            generalize wr.iterAt I ⟨vc.toArray⟩ (k + 1) = wi at *
            go_wp2_with fail
            go_ret
            exact ⟨by rw [hno.out]; rfl, hbw.trans ((hb.trans i2).mono s1)⟩
        · have d3 : ((vc[k].toNat : Int) == 42) = false := by rw [show ((42 : Int)) = ((42 : Nat) : Int) from rfl, q3]; simpa using c3
          have HY := Lib.hid (show agB vc bc W k = (!(bc[k] == 42) && (!digSign vc[k] || (numM bc W k == vc[k].toNat - 48))) by rw [HF.out, agS, if_neg c1, if_neg c3])
          clear c1 c3 q1 q3
          by_cases c2 : (bc[k] == 42) = true
          · have d2 : ((bc[k].toNat : Int) == 42) = true := by rw [show ((42 : Int)) = ((42 : Nat) : Int) from rfl, q2]; simpa using c2
            rw [c2] at HY
            have hno := Lib.hid (ag_no hlt HY.out)
            clear c2 q2
            go_wp2_with fail
            clear hnx
            generalize wr.iterAt I ⟨vc.toArray⟩ (k + 1) = wi at *
            go_wp2_with fail
            go_ret
            exact ⟨by rw [hno.out]; rfl, hbw.trans ((hb.trans i2).mono s1)⟩
          · have d2 : ((bc[k].toNat : Int) == 42) = false := by rw [show ((42 : Int)) = ((42 : Nat) : Int) from rfl, q2]; simpa using c2
            rw [show (bc[k] == 42) = false by simpa using c2] at HY
            clear c2 q2
            have hro := fun w => ruOpen_any vc[k] w
            cases hdg : digSign vc[k] with
            | false =>
              rw [hdg] at HY hro
              have HRO := Lib.hid (fun w => (hro w).mono fun e w' h => (show e = .returned (.bool false) ∧ w' = w from ⟨h.1, h.2.symm⟩))
              clear hdg hro
              go_wp2_with fail
              clear hnx
              generalize wr.iterAt I ⟨vc.toArray⟩ (k + 1) = wi at *
              have hsz := Lib.hid (hb.trans i2).size
              have ip := Lib.hid (iterPos_at i1)
              have I1 := Lib.hid i1
              clear i1
              go_quiet ((go_at_call 42; refine Calls.quiet_of_same (HRO.out _)))
              have I2 : Hid ((wi.drewN nq).heap[I]? = some (.stringIter ⟨vc.toArray⟩ (k + 1))) := I1.out
              have ip2 := Lib.hid (iterPos_at I2.out)
              have hbq := below_drewN (hb.trans i2) nq
              clear I1 ip
              go_wp2_with fail
              go_roundw
              case rel => exact ⟨k + 1, by omega, I2, fun j hj => (Nat.lt_succ_iff_lt_or_eq.1 hj).elim (hall.out j) (fun h => by rw [h, HY.out]; rfl), hbq⟩
              case measure => rw [hpos.out, ip2.out]; omega
            | true =>
              rw [hdg] at HY hro
              have hge : 48 ≤ vc[k].toNat := by simp [digSign] at hdg; omega
              have hle : vc[k].toNat ≤ 56 := by simp [digSign] at hdg; omega
              have hsub := Lib.hid (dig_rest vc[k].toNat hge hle)
              have HRO := Lib.hid hro
              clear hdg hro
              have hnm := fun w => HNM.out w k hlb
              generalize numM bc W k = m at *
              have q4 : ((m : Int) == ((vc[k].toNat - 48 : Nat) : Int)) = (m == vc[k].toNat - 48) := by
                by_cases h : m = vc[k].toNat - 48
                · rw [← h]; simp
                · rw [beq_eq_false_iff_ne.2 h, beq_eq_false_iff_ne.2 (by omega)]
              have HM := Lib.hid hnm
              clear hnm
              cases he : (m == vc[k].toNat - 48) with
              | true =>
                rw [he] at HY q4
                have hd : ((m : Int) != IntKind.i64.wrap (IntKind.u8.wrap ((vc[k].toNat : Int) - 48))) = false := by rw [hsub.out, bne, q4]; rfl
                clear q4 he hsub
                go_wp2_with fail
                clear hnx
                generalize wr.iterAt I ⟨vc.toArray⟩ (k + 1) = wi at *
                have hsz := Lib.hid (hb.trans i2).size
                go_region_held3 (fun _ => True) (trivial) (first | (go_at_call 42; refine (HRO.out _).mono ?_; rintro e w6 ⟨rfl, rfl⟩) | (go_at_call 79; refine (HM.out _).mono ?_; rintro e w5 ⟨rfl, hb5⟩))
                all_goals
                  have hb5' : Below wi.heap.size wi w5 := ofDrew hb5
                  have hsz5 := hb5'.size
                  have i5 := (hb5'.block I (by have := block_lt i1; omega)).trans i1
                  have ip := Lib.hid (iterPos_at i5)
                  have I5 := Lib.hid i5
                  clear i5 hb5
                  go_wp2_with fail
                  go_roundw
                  case rel => exact ⟨k + 1, by omega, I5, fun j hj => (Nat.lt_succ_iff_lt_or_eq.1 hj).elim (hall.out j) (fun h => by rw [h, HY.out]; rfl), (hb.trans i2).trans (hb5'.mono (by have := hsz.out; omega))⟩
                  case measure => rw [hpos.out, ip.out]; omega
              | false =>
                rw [he] at HY q4
                have hd : ((m : Int) != IntKind.i64.wrap (IntKind.u8.wrap ((vc[k].toNat : Int) - 48))) = true := by rw [hsub.out, bne, q4]; rfl
                have hno := Lib.hid (ag_no hlt HY.out)
                clear q4 he hsub
                go_wp2_with fail
                clear hnx
                generalize wr.iterAt I ⟨vc.toArray⟩ (k + 1) = wi at *
                have hsz := Lib.hid (hb.trans i2).size
                go_region_held3 (fun _ => True) (trivial) (first | (go_at_call 42; refine (HRO.out _).mono ?_; rintro e w6 ⟨rfl, rfl⟩) | (go_at_call 79; refine (HM.out _).mono ?_; rintro e w5 ⟨rfl, hb5⟩))
                all_goals
                  have hb5' : Below wi.heap.size wi w5 := ofDrew hb5
                  clear hb5
                  go_wp2_with fail
                  go_ret
                  exact ⟨by rw [hno.out]; rfl, (hbw.trans ((hb.trans i2).mono s1)).trans (hb5'.mono (by have := hsz.out; have := hbw.size; omega))⟩
    · obtain rfl : k = vc.length := by omega
      have hnx := fun ty => Lib.run_next_end_at (P := Tryd.prog) wr I ⟨vc.toArray⟩ vc.length ty hIr.out (by simp [ByteArray.size])
      go_wp2_with fail
      go_ret
      exact ⟨by rw [ag_yes hall.out]; rfl, hbw.trans (hb.mono s1)⟩

/-- What DoesAgree hands back. -/
def daOK (l r : List UInt8) : Bool := gridM noteSign l && boGoodM r && decide (gW r = grW noteSign l) && decide (gH r = grH noteSign l)
def daB (l r : List UInt8) : Bool := daOK l r && agM (grC noteSign l) (gCells r) (grW noteSign l)

set_option maxRecDepth 100000 in
set_option maxHeartbeats 1600000 in
theorem sDoesAgree_any (l r : List UInt8) (w : World) (hl : l.length ≤ 1048576) (hl2 : r.length ≤ 1048576) :
    Calls Tryd.prog 25 #[.string ⟨l.toArray⟩, .string ⟨r.toArray⟩] w fun e w' => e = .returned (.tuple #[.bool (daB l r), .bool (daOK l r)]) ∧ Below w.heap.size w w' := by
  have h1 := fun w => ruGood_any l w hl
  have h2 := fun w => boGood_any r w hl2
  cases hg : gridM noteSign l with
  | false =>
    have HO := Lib.hid (show daOK l r = false by rw [daOK, hg]; rfl)
    have HT := Lib.hid (show daB l r = false by rw [daB, HO.out]; rfl)
    rw [hg] at h1
    clear hg
    go_enter Tryd.func25, Tryd.ntmps25
    go_wp2_with (go_at_call 31; refine (h1 _).mono ?_; rintro e w1 ⟨rfl, hb⟩)
    go_ret2
    exact ⟨by rw [HO.out, HT.out]; rfl, hb⟩
  | true =>
    rw [hg] at h1
    cases hg2 : boGoodM r with
    | false =>
      have HO := Lib.hid (show daOK l r = false by rw [daOK, hg2]; simp)
      have HT := Lib.hid (show daB l r = false by rw [daB, HO.out]; rfl)
      rw [hg2] at h2
      clear hg hg2
      go_enter Tryd.func25, Tryd.ntmps25
      go_wp2_with fail
      refine (h1 _).mono ?_
      rintro e w1 ⟨rfl, hb⟩
      go_wp2_with fail
      refine (h2 _).mono ?_
      rintro e w2 ⟨rfl, hb2⟩
      go_wp2_with fail
      go_ret2
      exact ⟨by rw [HO.out, HT.out]; rfl, hb.trans (hb2.mono hb.size)⟩
    | true =>
      rw [hg2] at h2
      obtain ⟨hB, hsg⟩ := Grd.note hg
      have hBr := Brd.of hg2
      obtain ⟨g1, g2, g3⟩ := hBr.grid
      have hz1 := fun w => boSize_any l w hl
      have hz2 := fun w => boSize_any r w hl2
      rw [hB.size] at hz1
      rw [hBr.size, ← g1, ← g2] at hz2
      have HOK : Hid (daOK l r = (decide (gW r = grW noteSign l) && decide (gH r = grH noteSign l))) := by rw [Hid, daOK, hg, hg2]; simp
      have hrc : cellsM r = gCells r := by rw [gCells, if_pos hg2]
      by_cases hw : gW r = grW noteSign l
      · by_cases hh : gH r = grH noteSign l
        · have HO := Lib.hid (show daOK l r = true by rw [HOK.out]; simp [hw, hh])
          have HT := Lib.hid (show daB l r = agM (grC noteSign l) (gCells r) (grW noteSign l) by rw [daB, HO.out, Bool.true_and])
          have hbl : (gCells r).length = (grC noteSign l).length := by rw [gCells_len, hB.len, hw, hh]
          have HA := Lib.hid (fun w => ruAgrees_any l r _ (gCells r) _ _ w hB hrc hbl hsg hl hl2)
          have d1 : ((grW noteSign l : Int) != (grW noteSign l : Int)) = false := by simp
          have d2 : ((grH noteSign l : Int) != (grH noteSign l : Int)) = false := by simp
          rw [hw, hh] at hz2
          clear hg hg2 hB hsg hBr g1 g2 g3 hw hh hbl hrc
          go_enter Tryd.func25, Tryd.ntmps25
          go_wp2_with fail
          refine (h1 _).mono ?_
          rintro e w1 ⟨rfl, hb⟩
          go_wp2_with fail
          refine (h2 _).mono ?_
          rintro e w2 ⟨rfl, hb2⟩
          go_wp2_with fail
          refine (hz1 _).mono ?_
          rintro e w3 ⟨rfl, hb3⟩
          go_wp2_with fail
          refine (hz2 _).mono ?_
          rintro e w4 ⟨rfl, hb4⟩
          have hb04 := ((hb.trans (hb2.mono hb.size)).trans (hb3.mono (by have := hb.size; have := hb2.size; omega))).trans (hb4.mono (by have := hb.size; have := hb2.size; have := hb3.size; omega))
          go_wp2_with fail
          refine (HA.out _).mono ?_
          rintro e w5 ⟨rfl, hb5⟩
          go_wp2_with fail
          go_ret2
          exact ⟨by rw [HO.out, HT.out]; rfl, hb04.trans (hb5.mono hb04.size)⟩
        · have HO := Lib.hid (show daOK l r = false by rw [HOK.out]; simp [hh])
          have HT := Lib.hid (show daB l r = false by rw [daB, HO.out]; rfl)
          have d1 : ((grW noteSign l : Int) != (grW noteSign l : Int)) = false := by simp
          have d2 : ((grH noteSign l : Int) != (gH r : Int)) = true := by simp; omega
          rw [hw] at hz2
          clear hg hg2 hB hsg hBr g1 g2 g3 hw hh hrc
          go_enter Tryd.func25, Tryd.ntmps25
          go_wp2_with fail
          refine (h1 _).mono ?_
          rintro e w1 ⟨rfl, hb⟩
          go_wp2_with fail
          refine (h2 _).mono ?_
          rintro e w2 ⟨rfl, hb2⟩
          go_wp2_with fail
          refine (hz1 _).mono ?_
          rintro e w3 ⟨rfl, hb3⟩
          go_wp2_with fail
          refine (hz2 _).mono ?_
          rintro e w4 ⟨rfl, hb4⟩
          have hb04 := ((hb.trans (hb2.mono hb.size)).trans (hb3.mono (by have := hb.size; have := hb2.size; omega))).trans (hb4.mono (by have := hb.size; have := hb2.size; have := hb3.size; omega))
          go_wp2_with fail
          go_ret2
          exact ⟨by rw [HO.out, HT.out]; rfl, hb04⟩
      · have HO := Lib.hid (show daOK l r = false by rw [HOK.out]; simp [hw])
        have HT := Lib.hid (show daB l r = false by rw [daB, HO.out]; rfl)
        have d1 : ((grW noteSign l : Int) != (gW r : Int)) = true := by simp; omega
        clear hg hg2 hB hsg hBr g1 g2 g3 hw hrc
        go_enter Tryd.func25, Tryd.ntmps25
        go_wp2_with fail
        refine (h1 _).mono ?_
        rintro e w1 ⟨rfl, hb⟩
        go_wp2_with fail
        refine (h2 _).mono ?_
        rintro e w2 ⟨rfl, hb2⟩
        go_wp2_with fail
        refine (hz1 _).mono ?_
        rintro e w3 ⟨rfl, hb3⟩
        go_wp2_with fail
        refine (hz2 _).mono ?_
        rintro e w4 ⟨rfl, hb4⟩
        have hb04 := ((hb.trans (hb2.mono hb.size)).trans (hb3.mono (by have := hb.size; have := hb2.size; omega))).trans (hb4.mono (by have := hb.size; have := hb2.size; have := hb3.size; omega))
        go_wp2_with fail
        go_ret2
        exact ⟨by rw [HO.out, HT.out]; rfl, hb04⟩
end Go.Proofs.YthlbplmghjaeoabDoor
