/- The law of SingleFinds, walked: at all arguments the program answers as the model, and what it hands back is its own. -/
import Derived.Test.YthlbplmghjaeoabDoorGD3
import Derived.Test.YthlbplmghjaeoabDoorE3
namespace Go.Proofs.YthlbplmghjaeoabDoor
open Go.RowKit

set_option maxRecDepth 100000 in
set_option maxHeartbeats 3200000 in
theorem law_SingleFinds (l : List UInt8) (c : Int) (w : World) (hM : HasLib w) (hs : l.length ≤ 9223372036854775807) :
    Calls Tryd.prog 10 #[.string ⟨l.toArray⟩, .int .i64 c] w fun e w' => e = .returned (.bool true) ∧ Below w.heap.size w w' := by
  by_cases hl : l.length ≤ 1048576
  · obtain ⟨hl1, hl2⟩ := siP_len l c
    have HSP := Lib.hid (fun w => sSingleFinds_any l c w hl)
    have HIM := Lib.hid (fun w hM => iSingleFinds_any l c w hM hl)
    generalize siOK l c = ok at *
    generalize siP l c = P at *
    obtain ⟨L1, L2⟩ := P
    simp only at hl1 hl2 HSP HIM
    have d0 : (ok != ok) = false := by simp
    have d1 : ((1 : Int) + (L1.length : Int) + (L2.length : Int) != 1 + (L1.length : Int) + (L2.length : Int)) = false := by simp
    go_enter Tryd.func10, Tryd.ntmps10
    go_wp2_with fail
    refine (HSP.out _).mono ?_
    rintro e w1 ⟨a1, c1, a2, c2, rfl, p1, p2, hb1⟩
    have t1 := hb1.size
    have hwl1 := Lib.hid (fun j hj => (p1.lt j hj).2)
    have hwl2 := Lib.hid (fun j hj => (p2.lt j hj).2)
    go_wp2_with fail
    refine (HIM.out _ (hM.later hb1)).mono ?_
    rintro e w2 ⟨b1, k1, b2, k2, rfl, q1, q2, hap, hb2⟩
    have t2 := hb2.size
    have HAP := Lib.hid hap
    have p12 := p1.later hb2
    have p22 := p2.later hb2
    have hb02 := hb1.trans (hb2.mono t1)
    clear hap p1 p2
    go_wp2_with fail
    refine (eqIntS_same _ _ (L1.map Int.ofNat) _ _ _ _ (by simp) q1.at p12.at (by simp; omega)).mono ?_
    rintro e w3 ⟨rfl, hb3⟩
    have t3 := hb3.size
    have p13 := p12.later hb3
    have p23 := p22.later hb3
    have q13 := q1.later hb3
    have q23 := q2.later hb3
    have hb03 := hb02.trans (hb3.mono hb02.size)
    clear p12 p22 q1 q2
    go_wp2_with fail
    refine (eqIntS_same _ _ (L2.map Int.ofNat) _ _ _ _ (by simp) q23.at p23.at (by simp; omega)).mono ?_
    rintro e w4 ⟨rfl, hb4⟩
    have t4 := hb4.size
    have p14 := p13.later hb4
    have p24 := p23.later hb4
    have q14 := q13.later hb4
    have q24 := q23.later hb4
    have hb04 := hb03.trans (hb4.mono hb03.size)
    clear p13 p23 q13 q23
    go_wp2_with fail
    refine (markIntS_keepK w1.heap.size _ (L1.map Int.ofNat) _ _ 1 _ (by omega) (by simp) q14 (by simp; omega)).mono ?_
    rintro e w5 ⟨rfl, q15, hb5, hk5⟩
    have t5 := hb5.size
    have hq1 := Lib.hid (fun j hj => (q14.lt j hj).1)
    have hq2 := Lib.hid (fun j hj => (q24.lt j hj).1)
    have p15 := p14.heapOf (fun j hj => hk5 j (fun q => by have := hwl1.out j hj; have := hq1.out j q; omega))
    have p25 := p24.heapOf (fun j hj => hk5 j (fun q => by have := hwl2.out j hj; have := hq1.out j q; omega))
    have q25 := q24.heapOf (fun j hj => hk5 j (fun q => HAP.out j j q hj rfl))
    have hb05 := hb04.trans (hb5.mono t1)
    clear p14 p24 q14 q24 hk5
    go_wp2_with fail
    refine (markIntS_keepK w1.heap.size _ (L2.map Int.ofNat) _ _ (1 + L1.length) _ (by omega) (by simp) q25 (by simp; omega)).mono ?_
    rintro e w6 ⟨rfl, q26, hb6, hk6⟩
    have t6 := hb6.size
    have p16 := p15.heapOf (fun j hj => hk6 j (fun q => by have := hwl1.out j hj; have := hq2.out j q; omega))
    have p26 := p25.heapOf (fun j hj => hk6 j (fun q => by have := hwl2.out j hj; have := hq2.out j q; omega))
    have q16 := q15.heapOf (fun j hj => hk6 j (fun q => HAP.out j j hj q rfl))
    have hb06 := hb05.trans (hb6.mono t1)
    clear p15 p25 q15 q25 hk6
    go_wp2_with fail
    refine (heldIntS_seqK _ _ _ 1 _ q16.at (by omega) (by omega)).mono ?_
    rintro e w6' ⟨rfl, rfl⟩
    go_wp2_with fail
    refine (heldIntS_seqK _ _ _ (1 + L1.length) _ q26.at (by omega) (by omega)).mono ?_
    rintro e w6' ⟨rfl, rfl⟩
    go_wp2_with fail
    refine (HIM.out _ (hM.later hb06)).mono ?_
    rintro e w7 ⟨b5, k5, b6, k6, rfl, r1, r2, _, hb7⟩
    have p17 := p16.later hb7
    have p27 := p26.later hb7
    have q17 := q16.later hb7
    have q27 := q26.later hb7
    have hb07 := hb06.trans (hb7.mono hb06.size)
    clear p16 p26 q16 q26
    go_wp2_with fail
    refine (eqIntS_same _ _ (L1.map Int.ofNat) _ _ _ _ (by simp) r1.at p17.at (by simp; omega)).mono ?_
    rintro e w8 ⟨rfl, hb8⟩
    have p28 := p27.later hb8
    have r28 := r2.later hb8
    have q18 := q17.later hb8
    have q28 := q27.later hb8
    have hb08 := hb07.trans (hb8.mono hb07.size)
    clear p17 p27 q17 q27 r1 r2
    go_wp2_with fail
    refine (eqIntS_same _ _ (L2.map Int.ofNat) _ _ _ _ (by simp) r28.at p28.at (by simp; omega)).mono ?_
    rintro e w9 ⟨rfl, hb9⟩
    have q19 := q18.later hb9
    have q29 := q28.later hb9
    have hb09 := hb08.trans (hb9.mono hb08.size)
    clear p28 q18 q28 r28
    go_wp2_with fail
    refine (heldIntS_seqK _ _ _ 1 _ q19.at (by omega) (by omega)).mono ?_
    rintro e w9' ⟨rfl, rfl⟩
    go_wp2_with fail
    refine (heldIntS_seqK _ _ _ (1 + L1.length) _ q29.at (by omega) (by omega)).mono ?_
    rintro e w9' ⟨rfl, rfl⟩
    go_wp2_with fail
    go_ret
    exact ⟨rfl, hb09⟩
  · have hl' : 1048576 < l.length := by omega
    clear hl
    go_enter Tryd.func10, Tryd.ntmps10
    go_wp2_with fail
    go_ret
    exact ⟨rfl, Below.refl _ _⟩
end Go.Proofs.YthlbplmghjaeoabDoor
