/- Notes: whether a board agrees with them, by the program. -/
import Derived.Test.YthlbplmghjaeoabDoorCF
import Derived.Outline
namespace Go.Proofs.YthlbplmghjaeoabDoor
open Go.RowKit

set_option maxRecDepth 100000 in
set_option maxHeartbeats 3200000 in
theorem agrees_any (W H W2 H2 : Nat) (vc bc : List UInt8) (a : Option Addr) (cap : Nat) (w : World) (hat : At w a (byts bc)) (hbl : bc.length = vc.length) (hW : 1 ≤ W ∧ W ≤ 8) (hH : H ≤ 8) (hlen : bc.length = W * H) (h64 : bc.length ≤ 64) :
    Calls Tryd.prog 53 #[.agg #[.int .i64 W2, .int .i64 H2, .string ⟨vc.toArray⟩], .agg #[.int .i64 W, .int .i64 H, .slice a bc.length cap, .bool false]] w fun e w' => e = .returned (.bool (agM vc bc W)) ∧ Below w.heap.size w w' := by
  have hnm := fun w k h hk => number_any W H a bc cap k w h hW.1 hk h64
  have h9 := fun k hk => numM_nine bc W H k hW.2 hH hlen hk
  have HBL := Lib.hid hbl
  have HNM := Lib.hid hnm
  have H9 := Lib.hid h9
  have HN0 : Hid (∀ k, k < bc.length → k < vc.length) := fun k hk => by rw [← hbl]; exact hk
  clear hnm h9 hlen hbl
  have hb0 : Below w.heap.size w ((w.alloc (.cells #[.int .i64 W2, .int .i64 H2, .string ⟨vc.toArray⟩] 44)).alloc (.cells #[.int .i64 W, .int .i64 H, .slice a bc.length cap, .bool false] 53)) := ((Below.refl _ _).alloc (Nat.le_refl _) _).alloc (by simp) _
  have hV0 : ((w.alloc (.cells #[.int .i64 W2, .int .i64 H2, .string ⟨vc.toArray⟩] 44)).alloc (.cells #[.int .i64 W, .int .i64 H, .slice a bc.length cap, .bool false] 53)).heap[w.heap.size]? = some (.cells #[.int .i64 W2, .int .i64 H2, .string ⟨vc.toArray⟩] 44 (0, 0)) := (Below.heap_alloc _ _ _ (by simp)).trans (heap_alloc_new w _)
  have hG0 : ((w.alloc (.cells #[.int .i64 W2, .int .i64 H2, .string ⟨vc.toArray⟩] 44)).alloc (.cells #[.int .i64 W, .int .i64 H, .slice a bc.length cap, .bool false] 53)).heap[w.heap.size + 1]? = some (.cells #[.int .i64 W, .int .i64 H, .slice a bc.length cap, .bool false] 53 (0, 0)) := by
    have := heap_alloc_new (w.alloc (.cells #[.int .i64 W2, .int .i64 H2, .string ⟨vc.toArray⟩] 44)) (.cells #[.int .i64 W, .int .i64 H, .slice a bc.length cap, .bool false] 53)
    simpa using this
  have hs0 : ((w.alloc (.cells #[.int .i64 W2, .int .i64 H2, .string ⟨vc.toArray⟩] 44)).alloc (.cells #[.int .i64 W, .int .i64 H, .slice a bc.length cap, .bool false] 53)).heap.size = w.heap.size + 2 := by simp
  have hat0 := hat.later rfl hb0
  go_enter Tryd.func53, Tryd.ntmps53
  go_wp2_with fail
  generalize (w.alloc (.cells #[.int .i64 W2, .int .i64 H2, .string ⟨vc.toArray⟩] 44)).alloc (.cells #[.int .i64 W, .int .i64 H, .slice a bc.length cap, .bool false] 53) = w0 at *
  clear hat
  have HV0 := Lib.hid hV0
  have HG0 := Lib.hid hG0
  clear hV0 hG0
  go_loopw [10] (fun i wr => ∃ k : Nat, k ≤ bc.length ∧ i = .int .i64 k ∧ Below w0.heap.size w0 wr ∧ Hid (∀ j, j < k → agB vc bc W j = true)) (fun i _ => bc.length - (intOf i).toNat)
  case atStart => exact ⟨0, Nat.zero_le _, rfl, Below.refl _ _, fun j hj => absurd hj (by omega)⟩
  case round =>
    obtain ⟨k, hk, rfl, hbr, hall⟩ := hrel
    have sr := hbr.size
    by_cases hlt : k < bc.length
    · have hlv : k < vc.length := HN0.out k hlt
      have hVr := (hbr.block _ (by omega)).trans HV0.out
      have hGr := (hbr.block _ (by omega)).trans HG0.out
      have v2 := cell_of_block hVr 2
      have g0 := cell_of_block hGr 0
      have g1 := cell_of_block hGr 1
      have g2 := cell_of_block hGr 2
      have g3 := cell_of_block hGr 3
      simp at v2 g0 g1 g2 g3
      have hatr := hat0.later rfl hbr
      have HF := Lib.hid (ag_at (W := W) hlv hlt)
      have hmine := Lib.hid (isMine_any (J := false) W H a bc cap k wr hatr hlt h64)
      have hgl := block_lt hGr
      have HGr := Lib.hid hGr
      have q1 := byte_beq vc[k] 63 (by omega)
      have q2 := byte_beq bc[k] 42 (by omega)
      have q3 := byte_beq vc[k] 42 (by omega)
      clear hVr hGr
      by_cases c1 : (vc[k] == 63) = true
      · have d1 : ((vc[k].toNat : Int) == 63) = true := by rw [show ((63 : Int)) = ((63 : Nat) : Int) from rfl, q1]; simpa using c1
        have HY := Lib.hid (show agB vc bc W k = true by rw [HF.out, agS, if_pos c1])
        clear c1 q1 q2 q3
        go_wp2_with fail
        go_roundw
        case rel => exact ⟨k + 1, by omega, by go_num, hbr, fun j hj => (Nat.lt_succ_iff_lt_or_eq.1 hj).elim (hall.out j) (fun h => by rw [h, HY.out])⟩
        case measure => simp [intOf]; omega
      · have d1 : ((vc[k].toNat : Int) == 63) = false := by rw [show ((63 : Int)) = ((63 : Nat) : Int) from rfl, q1]; simpa using c1
        by_cases c3 : (vc[k] == 42) = true
        · have d3 : ((vc[k].toNat : Int) == 42) = true := by rw [show ((42 : Int)) = ((42 : Nat) : Int) from rfl, q3]; simpa using c3
          have HY := Lib.hid (show agB vc bc W k = (bc[k] == 42) by rw [HF.out, agS, if_neg c1, if_pos c3])
          have hvv : vc[k] = 42 := by simpa using c3
          have hio := fun w => isOpenSign_any vc[k] w
          rw [show digSign vc[k] = false by rw [hvv]; decide] at hio
          have HIO := Lib.hid hio
          clear c1 c3 q1 q3 hvv hio
          by_cases c2 : (bc[k] == 42) = true
          · have d2 : ((bc[k].toNat : Int) == 42) = true := by rw [show ((42 : Int)) = ((42 : Nat) : Int) from rfl, q2]; simpa using c2
            rw [c2] at HY
            have hmn := hmine.out
            rw [d2] at hmn
            have HMN := Lib.hid hmn
            clear c2 q2 hmn
            go_wp2_with fail
            refine HMN.out.mono ?_
            rintro e w3 ⟨rfl, hb3⟩
            go_wp2_with fail
            refine (HIO.out _).mono ?_
            rintro e w4 ⟨rfl, rfl⟩
            go_wp2_with fail
            go_roundw
            case rel => exact ⟨k + 1, by omega, by go_num, hbr.trans (hb3.mono sr), fun j hj => (Nat.lt_succ_iff_lt_or_eq.1 hj).elim (hall.out j) (fun h => by rw [h, HY.out])⟩
            case measure => simp [intOf]; omega
          · have c2' : (bc[k] == 42) = false := by simpa using c2
            have d2 : ((bc[k].toNat : Int) == 42) = false := by rw [show ((42 : Int)) = ((42 : Nat) : Int) from rfl, q2]; simpa using c2
            rw [c2'] at HY
            have hno := Lib.hid (ag_no hlv HY.out)
            have hmn := hmine.out
            rw [d2] at hmn
            have HMN := Lib.hid hmn
            clear c2 c2' q2 hmn
            go_wp2_with fail
            refine HMN.out.mono ?_
            rintro e w3 ⟨rfl, hb3⟩
            go_wp2_with fail
            go_ret
            exact ⟨by rw [hno.out]; rfl, hb0.trans ((hbr.trans (hb3.mono sr)).mono (by omega))⟩
        · have d3 : ((vc[k].toNat : Int) == 42) = false := by rw [show ((42 : Int)) = ((42 : Nat) : Int) from rfl, q3]; simpa using c3
          have HY := Lib.hid (show agB vc bc W k = (!(bc[k] == 42) && (!digSign vc[k] || (numM bc W k == vc[k].toNat - 48))) by rw [HF.out, agS, if_neg c1, if_neg c3])
          clear c1 c3 q1 q3
          by_cases c2 : (bc[k] == 42) = true
          · have d2 : ((bc[k].toNat : Int) == 42) = true := by rw [show ((42 : Int)) = ((42 : Nat) : Int) from rfl, q2]; simpa using c2
            rw [c2] at HY
            have hno := Lib.hid (ag_no hlv HY.out)
            have hmn := hmine.out
            rw [d2] at hmn
            have HMN := Lib.hid hmn
            clear c2 q2 hmn
            go_wp2_with fail
            refine HMN.out.mono ?_
            rintro e w3 ⟨rfl, hb3⟩
            go_wp2_with fail
            go_ret
            exact ⟨by rw [hno.out]; rfl, hb0.trans ((hbr.trans (hb3.mono sr)).mono (by omega))⟩
          · have d2 : ((bc[k].toNat : Int) == 42) = false := by rw [show ((42 : Int)) = ((42 : Nat) : Int) from rfl, q2]; simpa using c2
            rw [show (bc[k] == 42) = false by simpa using c2] at HY
            have hmn := hmine.out
            rw [d2] at hmn
            have HMN := Lib.hid hmn
            clear c2 q2 hmn
            have hio := fun w => isOpenSign_any vc[k] w
            cases hdg : digSign vc[k] with
            | false =>
              rw [hdg] at HY hio
              have HIO := Lib.hid hio
              clear hdg hio
              go_wp2_with fail
              refine HMN.out.mono ?_
              rintro e w3 ⟨rfl, hb3⟩
              go_wp2_with fail
              refine (HIO.out _).mono ?_
              rintro e w4 ⟨rfl, rfl⟩
              go_wp2_with fail
              go_roundw
              case rel => exact ⟨k + 1, by omega, by go_num, hbr.trans (hb3.mono sr), fun j hj => (Nat.lt_succ_iff_lt_or_eq.1 hj).elim (hall.out j) (fun h => by rw [h, HY.out]; rfl)⟩
              case measure => simp [intOf]; omega
            | true =>
              have hm9 := H9.out k hlt
              have hdq := dig_eq9 vc[k] (numM bc W k) hm9 hdg
              rw [hdg, ← hdq] at HY
              rw [hdg] at hio
              have HIO := Lib.hid hio
              have hu := u8_eq_int vc[k] (digB (numM bc W k))
              have HDG := Lib.hid (fun w => digit_any (numM bc W k) w hm9)
              have HNK := Lib.hid (fun w h => HNM.out w k h hlt)
              clear hdg hio hdq
              generalize digB (numM bc W k) = db at *
              generalize numM bc W k = m at *
              go_wp2_with fail
              refine HMN.out.mono ?_
              rintro e w3 ⟨rfl, hb3⟩
              have s3 := hb3.size
              have hG3 := (hb3.block _ hgl).trans HGr.out
              have g0 := cell_of_block hG3 0
              have g1 := cell_of_block hG3 1
              have g2 := cell_of_block hG3 2
              have g3 := cell_of_block hG3 3
              simp at g0 g1 g2 g3
              have HN3 := Lib.hid (HNK.out _ (hatr.later rfl hb3))
              clear hG3
              go_wp2_with fail
              refine (HIO.out _).mono ?_
              rintro e w4 ⟨rfl, rfl⟩
              go_wp2_with fail
              refine HN3.out.mono ?_
              rintro e w5 ⟨rfl, hb5⟩
              have hbx := Lib.hid ((hbr.trans (hb3.mono sr)).trans (hb5.mono (by omega)))
              clear hb5 hb3
              cases he : (vc[k] == db) with
              | true =>
                rw [he] at HY
                have hd : ((vc[k].toNat : Int) != (db.toNat : Int)) = false := by rw [bne, hu]; simpa using he
                clear he hu
                go_wp2_with fail
                refine (HDG.out _).mono ?_
                rintro e w6 ⟨rfl, rfl⟩
                go_wp2_with fail
                go_roundw
                case rel => exact ⟨k + 1, by omega, by go_num, hbx.out, fun j hj => (Nat.lt_succ_iff_lt_or_eq.1 hj).elim (hall.out j) (fun h => by rw [h, HY.out]; rfl)⟩
                case measure => simp [intOf]; omega
              | false =>
                rw [he] at HY
                have hd : ((vc[k].toNat : Int) != (db.toNat : Int)) = true := by rw [bne, hu]; simpa using he
                have hno := Lib.hid (ag_no hlv HY.out)
                clear he hu
                go_wp2_with fail
                refine (HDG.out _).mono ?_
                rintro e w6 ⟨rfl, rfl⟩
                go_wp2_with fail
                go_ret
                exact ⟨by rw [hno.out]; rfl, hb0.trans (hbx.out.mono (by omega))⟩
    · obtain rfl : k = bc.length := by omega
      go_wp2_with fail
      go_ret
      exact ⟨by rw [ag_yes (fun k hk => hall.out k (by rw [HBL.out]; exact hk))]; rfl, hb0.trans (hbr.mono (by omega))⟩

set_option maxRecDepth 100000 in
set_option maxHeartbeats 1600000 in
theorem iDoesAgree_any (l r : List UInt8) (w : World) (hM : HasMax w) (hl : l.length ≤ 1048576) (hl2 : r.length ≤ 1048576) :
    Calls Tryd.prog 26 #[.string ⟨l.toArray⟩, .string ⟨r.toArray⟩] w fun e w' => e = .returned (.tuple #[.bool (daB l r), .bool (daOK l r)]) ∧ Below w.heap.size w w' := by
  have hrn := fun w hM => readNotes_any l w hM hl
  have hrb := fun w hM => readBoard_any r w hM hl2
  have h64 := gCells_le r
  cases hg : gridM noteSign l with
  | false =>
    have HO := Lib.hid (show daOK l r = false by rw [daOK, hg]; rfl)
    have HT := Lib.hid (show daB l r = false by rw [daB, HO.out]; rfl)
    rw [hg] at hrn
    clear hg
    go_enter Tryd.func26, Tryd.ntmps26
    go_wp2_with fail
    refine (hrn _ hM).mono ?_
    rintro e w1 ⟨rfl, hb⟩
    unfold ntV
    have hba := hb.alloc hb.size (.cells #[.int .i64 (grW noteSign l), .int .i64 (grH noteSign l), .string ⟨(grC noteSign l).toArray⟩] 44)
    have s1 := hb.size
    go_wp2_with fail
    refine (hrb _ (hM.later hba)).mono ?_
    rintro e w2 ⟨a, cap, rfl, hown, hb2⟩
    have hb02 := hba.trans (hb2.mono hba.size)
    go_wp2_with fail
    go_ret2
    exact ⟨by rw [HO.out, HT.out]; rfl, hb02.alloc hb02.size _⟩
  | true =>
    rw [hg] at hrn
    cases hg2 : boGoodM r with
    | false =>
      have HO := Lib.hid (show daOK l r = false by rw [daOK, hg2]; simp)
      have HT := Lib.hid (show daB l r = false by rw [daB, HO.out]; rfl)
      rw [hg2] at hrb
      clear hg hg2
      go_enter Tryd.func26, Tryd.ntmps26
      go_wp2_with fail
      refine (hrn _ hM).mono ?_
      rintro e w1 ⟨rfl, hb⟩
      unfold ntV
      have hba := hb.alloc hb.size (.cells #[.int .i64 (grW noteSign l), .int .i64 (grH noteSign l), .string ⟨(grC noteSign l).toArray⟩] 44)
      have s1 := hb.size
      go_wp2_with fail
      refine (hrb _ (hM.later hba)).mono ?_
      rintro e w2 ⟨a, cap, rfl, hown, hb2⟩
      have hb02 := hba.trans (hb2.mono hba.size)
      go_wp2_with fail
      go_ret2
      exact ⟨by rw [HO.out, HT.out]; rfl, hb02.alloc hb02.size _⟩
    | true =>
      rw [hg2] at hrb
      obtain ⟨hB, _⟩ := Grd.note hg
      have hBr := Brd.of hg2
      obtain ⟨g1, g2, g3⟩ := hBr.grid
      have hW : 1 ≤ gW r ∧ gW r ≤ 8 := by rw [g1]; exact ⟨hBr.w1, hBr.w8⟩
      have hH : gH r ≤ 8 := by rw [g2]; exact hBr.h8
      have hcl := gCells_len r
      have HOK : Hid (daOK l r = (decide (gW r = grW noteSign l) && decide (gH r = grH noteSign l))) := by rw [Hid, daOK, hg, hg2]; simp
      have hkeep : ∀ (w1 w2 : World), w1.heap.size + 1 ≤ w2.heap.size → (∀ k, k < w1.heap.size + 1 → w2.heap[k]? = (w1.alloc (.cells #[.int .i64 (grW noteSign l), .int .i64 (grH noteSign l), .string ⟨(grC noteSign l).toArray⟩] 44)).heap[k]?) → w2.heap[w1.heap.size]? = some (.cells #[.int .i64 (grW noteSign l), .int .i64 (grH noteSign l), .string ⟨(grC noteSign l).toArray⟩] 44 (0, 0)) := fun w1 w2 _ h => (h _ (by omega)).trans (heap_alloc_new w1 _)
      have HKP := Lib.hid hkeep
      clear hkeep
      by_cases hw : gW r = grW noteSign l
      · by_cases hh : gH r = grH noteSign l
        · have HO := Lib.hid (show daOK l r = true by rw [HOK.out]; simp [hw, hh])
          have HT := Lib.hid (show daB l r = agM (grC noteSign l) (gCells r) (gW r) by rw [daB, HO.out, Bool.true_and, hw])
          have hbl : (gCells r).length = (grC noteSign l).length := by rw [hcl, hB.len, hw, hh]
          have HAG := Lib.hid (fun a cap w h => agrees_any (gW r) (gH r) (grW noteSign l) (grH noteSign l) (grC noteSign l) (gCells r) a cap w h hbl hW hH hcl h64)
          have d1 : ((gW r : Int) != (grW noteSign l : Int)) = false := by simp [hw]
          have d2 : ((gH r : Int) != (grH noteSign l : Int)) = false := by simp [hh]
          clear hg hg2 hB hBr g1 g2 g3 hw hh hbl hcl hW hH
          go_enter Tryd.func26, Tryd.ntmps26
          go_wp2_with fail
          refine (hrn _ hM).mono ?_
          rintro e w1 ⟨rfl, hb⟩
          unfold ntV
          have hba := hb.alloc hb.size (.cells #[.int .i64 (grW noteSign l), .int .i64 (grH noteSign l), .string ⟨(grC noteSign l).toArray⟩] 44)
          have s1 := hb.size
          have hsz : (w1.alloc (.cells #[.int .i64 (grW noteSign l), .int .i64 (grH noteSign l), .string ⟨(grC noteSign l).toArray⟩] 44)).heap.size = w1.heap.size + 1 := by simp
          go_wp2_with fail
          refine (hrb _ (hM.later hba)).mono ?_
          rintro e w2 ⟨a, cap, rfl, hown, hb2⟩
          rw [hsz] at hb2 hown
          have hb02 := hba.trans (hb2.mono (by omega))
          have s2 : w1.heap.size + 1 ≤ w2.heap.size := by have := hb2.size; rw [hsz] at this; exact this
          have hN2 := HKP.out w1 w2 s2 hb2.block
          have hb2a : Below w2.heap.size w2 (w2.alloc (.cells #[.int .i64 (gW r), .int .i64 (gH r), .slice a (gCells r).length cap, .bool false] 53)) := (Below.refl _ _).alloc (Nat.le_refl _) _
          have hN3 := (hb2a.block _ (block_lt hN2)).trans hN2
          have n0 := cell_of_block hN3 0
          have n1 := cell_of_block hN3 1
          have n2 := cell_of_block hN3 2
          have n3 := cell_of_block hN3 3
          simp at n0 n1 n2 n3
          have hat3 := (hown.later hb2a).at
          have HA3 := Lib.hid (HAG.out a cap _ hat3)
          have HB3 := Lib.hid (hb02.trans (hb2a.mono hb02.size))
          have hnlt := block_lt hN2
          clear hN2 hN3 hown hb2 hb hba hat3 hb2a hb02
          go_wp2_with fail
          refine HA3.out.mono ?_
          rintro e w4 ⟨rfl, hb4⟩
          go_wp2_with fail
          go_ret2
          exact ⟨by rw [HO.out, HT.out]; rfl, HB3.out.trans (hb4.mono HB3.out.size)⟩
        · have HO := Lib.hid (show daOK l r = false by rw [HOK.out]; simp [hh])
          have HT := Lib.hid (show daB l r = false by rw [daB, HO.out]; rfl)
          have d1 : ((gW r : Int) != (grW noteSign l : Int)) = false := by simp [hw]
          have d2 : ((gH r : Int) != (grH noteSign l : Int)) = true := by simp; omega
          clear hg hg2 hB hBr g1 g2 g3 hw hh hcl hW hH
          go_enter Tryd.func26, Tryd.ntmps26
          go_wp2_with fail
          refine (hrn _ hM).mono ?_
          rintro e w1 ⟨rfl, hb⟩
          unfold ntV
          have hba := hb.alloc hb.size (.cells #[.int .i64 (grW noteSign l), .int .i64 (grH noteSign l), .string ⟨(grC noteSign l).toArray⟩] 44)
          have s1 := hb.size
          have hsz : (w1.alloc (.cells #[.int .i64 (grW noteSign l), .int .i64 (grH noteSign l), .string ⟨(grC noteSign l).toArray⟩] 44)).heap.size = w1.heap.size + 1 := by simp
          go_wp2_with fail
          refine (hrb _ (hM.later hba)).mono ?_
          rintro e w2 ⟨a, cap, rfl, hown, hb2⟩
          rw [hsz] at hb2 hown
          have hb02 := hba.trans (hb2.mono (by omega))
          have s2 : w1.heap.size + 1 ≤ w2.heap.size := by have := hb2.size; rw [hsz] at this; exact this
          have hN2 := HKP.out w1 w2 s2 hb2.block
          have hb2a : Below w2.heap.size w2 (w2.alloc (.cells #[.int .i64 (gW r), .int .i64 (gH r), .slice a (gCells r).length cap, .bool false] 53)) := (Below.refl _ _).alloc (Nat.le_refl _) _
          have hN3 := (hb2a.block _ (block_lt hN2)).trans hN2
          have n0 := cell_of_block hN3 0
          have n1 := cell_of_block hN3 1
          have n2 := cell_of_block hN3 2
          have n3 := cell_of_block hN3 3
          simp at n0 n1 n2 n3
          have HB3 := Lib.hid (hb02.trans (hb2a.mono hb02.size))
          have hnlt := block_lt hN2
          clear hN2 hN3 hown hb2 hb hba hb2a hb02
          go_wp2_with fail
          go_ret2
          exact ⟨by rw [HO.out, HT.out]; rfl, HB3.out⟩
      · have HO := Lib.hid (show daOK l r = false by rw [HOK.out]; simp [hw])
        have HT := Lib.hid (show daB l r = false by rw [daB, HO.out]; rfl)
        have d1 : ((gW r : Int) != (grW noteSign l : Int)) = true := by simp; omega
        clear hg hg2 hB hBr g1 g2 g3 hw hcl hW hH
        go_enter Tryd.func26, Tryd.ntmps26
        go_wp2_with fail
        refine (hrn _ hM).mono ?_
        rintro e w1 ⟨rfl, hb⟩
        unfold ntV
        have hba := hb.alloc hb.size (.cells #[.int .i64 (grW noteSign l), .int .i64 (grH noteSign l), .string ⟨(grC noteSign l).toArray⟩] 44)
        have s1 := hb.size
        have hsz : (w1.alloc (.cells #[.int .i64 (grW noteSign l), .int .i64 (grH noteSign l), .string ⟨(grC noteSign l).toArray⟩] 44)).heap.size = w1.heap.size + 1 := by simp
        go_wp2_with fail
        refine (hrb _ (hM.later hba)).mono ?_
        rintro e w2 ⟨a, cap, rfl, hown, hb2⟩
        rw [hsz] at hb2 hown
        have hb02 := hba.trans (hb2.mono (by omega))
        have s2 : w1.heap.size + 1 ≤ w2.heap.size := by have := hb2.size; rw [hsz] at this; exact this
        have hN2 := HKP.out w1 w2 s2 hb2.block
        have hb2a : Below w2.heap.size w2 (w2.alloc (.cells #[.int .i64 (gW r), .int .i64 (gH r), .slice a (gCells r).length cap, .bool false] 53)) := (Below.refl _ _).alloc (Nat.le_refl _) _
        have hN3 := (hb2a.block _ (block_lt hN2)).trans hN2
        have n0 := cell_of_block hN3 0
        have n1 := cell_of_block hN3 1
        have n2 := cell_of_block hN3 2
        have n3 := cell_of_block hN3 3
        simp at n0 n1 n2 n3
        have HB3 := Lib.hid (hb02.trans (hb2a.mono hb02.size))
        have hnlt := block_lt hN2
        clear hN2 hN3 hown hb2 hb hba hb2a hb02
        go_wp2_with fail
        go_ret2
        exact ⟨by rw [HO.out, HT.out]; rfl, HB3.out⟩
end Go.Proofs.YthlbplmghjaeoabDoor
