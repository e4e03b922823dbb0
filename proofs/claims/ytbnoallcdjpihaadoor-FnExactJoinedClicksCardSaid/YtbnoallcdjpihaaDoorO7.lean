/- Joined boards by the model: what a click opens. -/
import Derived.Test.YtbnoallcdjpihaaDoorO6
import Derived.Test.YtbnoallcdjpihaaDoorGY8
import Derived.Outline
namespace Go.Proofs.YtbnoallcdjpihaaDoor
open Go.RowKit

set_option maxRecDepth 100000 in
set_option maxHeartbeats 3200000 in
theorem joClick_any (l : List UInt8) (c : Nat) (w : World) (hl : l.length ≤ 1048576) (hj : joB l = true) (hc : c < (gCells l).length) :
    Calls Tryd.prog 34 #[.string ⟨l.toArray⟩, .int .i64 (c : Int)] w fun e w' => ∃ a cap, e = .returned (.slice a (opM (gCells l) (.around (gW l) (gH l)) c).length cap) ∧ Owns w' w.heap.size 3 (.slice a (opM (gCells l) (.around (gW l) (gH l)) c).length cap) (nats (opM (gCells l) (.around (gW l) (gH l)) c)) ∧ Below w.heap.size w w' := by
  have hB := Brd.g (joB_good hj)
  have hs := joB_sizes hj
  have hn64 := hB.n64
  have HS := Lib.hid (fun w => boSize_any l w hl)
  rw [hB.size] at HS
  have HJ := Lib.hid (fun w => joOf_any l w hl hj)
  have HNR := Lib.hid (fun (c : Nat) (w : World) (hc : c < (gCells l).length) => joNear_any (gW l) (gH l) c ⟨hB.w1, hB.w8⟩ ⟨hB.h1, hB.h8⟩ (by rw [← hB.len]; exact hc) w)
  have HJN : Hid (∀ c, c < (gCells l).length → joN (gW l) (gH l) c = nearM (.around (gW l) (gH l)) (gCells l).length c) := fun c hc => by rw [hB.len]; exact joN_eq (gW l) (gH l) c ⟨hs.1, hB.w8⟩ ⟨hs.2, hB.h8⟩ (by rw [← hB.len]; exact hc)
  clear hj hB hs
  generalize Geo.around (gW l) (gH l) = V at *
  generalize gW l = W at *
  generalize gH l = H at *
  generalize gCells l = cells at *
  have hnlt : ∀ y, ∀ x ∈ nearM V cells.length y, x < cells.length := fun y x hx => nearM_lt V cells.length y x hx
  have HN := Lib.hid hnlt
  have hBq0 : Hid (Bq (nearM V cells.length) (zeroB cells V) [] cells.length c 0 [c]) := Bq.start hc
  have HO : Hid (opM cells V c = sortM cells.length (bfs (nearM V cells.length) (zeroB cells V) [] cells.length 0 [c])) := rfl
  clear hnlt
  go_enter Tryd.func34, Tryd.ntmps34
  go_wp2_with fail
  refine (HS.out _).mono ?_
  rintro e w1 ⟨rfl, hb1⟩
  go_wp2_with fail
  refine (HJ.out _).mono ?_
  rintro e w3 ⟨a7, c7, rfl, hown7, hb3⟩
  have hb03 : Below w.heap.size w w3 := hb1.trans (hb3.mono hb1.size)
  have s03 := hb03.size
  go_wp2_with fail
  have hal : Below w3.heap.size w3 (w3.alloc (.cells #[.int .i64 (c : Int)] 3)) := (Below.refl _ _).alloc (Nat.le_refl _) _
  have hown8 : Owns (w3.alloc (.cells #[.int .i64 (c : Int)] 3)) w3.heap.size 3 (.slice (some ⟨w3.heap.size, 0, none⟩) 1 1) (nats [c]) := Owns.one w3 w3.heap.size _ _ (Nat.le_refl _)
  have hat7 := hown7.at
  generalize w3.alloc (.cells #[.int .i64 (c : Int)] 3) = w4 at *
  clear hown7 hb1 hb3
  generalize hBB : w3.heap.size = B at *
  have HBB := Lib.hid hBB
  clear hBB
  go_loopw [8, 9, 10] (fun v8 v9 i wr => ∃ (k : Nat) (q : List Nat), k ≤ q.length ∧ q.length ≤ cells.length ∧ i = .int .i64 k ∧ Owns wr B 3 v8 (nats q) ∧ Owns wr B 3 v9 (nats (sortM cells.length (q.take k))) ∧ Apart v8 v9 ∧ Below B w3 wr ∧ B ≤ wr.heap.size ∧ Hid (Bq (nearM V cells.length) (zeroB cells V) [] cells.length c k q) ∧ Hid (bfs (nearM V cells.length) (zeroB cells V) [] cells.length 0 [c] = bfs (nearM V cells.length) (zeroB cells V) [] (cells.length - k) k q)) (fun _ _ i _ => cells.length - (intOf i).toNat)
  case atStart => exact ⟨0, [c], by simp, by simp; omega, rfl, hown8, by rw [show sortM cells.length (List.take 0 [c]) = [] by simp [sortM]]; exact Owns.nil _ _ _, (by intro k _ hk2; simp [Value.ownBlock] at hk2), hal, by have := hal.size; have := HBB.out; omega, hBq0, rfl⟩
  case round =>
    clear hown8 hal
    obtain ⟨k, q, hkq, hqn, rfl, hown8, hown9, hap, hbr, hsr, HB, HR⟩ := hrel
    obtain ⟨a8, cap8, hv⟩ := hown8.shape
    simp only [nats_length] at hv
    subst hv
    by_cases hlt : k < q.length
    · have hqk : q[k] < cells.length := HB.out.lt _ (List.getElem_mem hlt)
      obtain ⟨g8, off8, rfl, hc8⟩ := nats_at hown8.at k hlt
      have hsl := sortM_le cells.length (q.take k)
      have htk : Hid (q.take (k + 1) = q.take k ++ [q[k]]) := List.take_succ_eq_append_getElem hlt
      go_wp2_with fail
      refine (l1Put_any (sortM cells.length (q.take k)) q[k] u9 B _ hown9 (by omega) hsr).mono ?_
      rintro e w5 ⟨v9, rfl, hown9', hb5, hor⟩
      rw [putM_sort (fun x hx => HB.out.lt x (List.mem_of_mem_take hx)) hqk, ← htk.out] at hown9'
      have hown8' := hown8.later hb5
      have hap' : Apart (.slice (some ⟨g8, off8, none⟩) q.length cap8) v9 := by
        rcases hor with rfl | hor
        · exact hap
        · exact Apart.fresh hown8 hor
      have hbr5 : Below B w3 w5 := hbr.trans (hb5.mono hsr)
      have hsr5 : B ≤ w5.heap.size := by have := hb5.size; omega
      have hat5 := hat7.below hat7 (by rw [HBB.out]; exact Nat.le_refl _) hbr5
      obtain ⟨g8', off8', he8, hc8'⟩ := nats_at hown8'.at k hlt
      simp only [Option.some.injEq, Addr.mk.injEq, and_true] at he8
      obtain ⟨rfl, rfl⟩ := he8
      obtain ⟨g7, off7, he7, hc7⟩ := nats_at hat5 q[k] (by simpa using hqk)
      rw [numsM_get] at hc7
      clear hc8 hown8 hown9 hap hbr hb5 hor
      subst he7
      by_cases hz : zeroB cells V q[k] = true
      · have hz0 : ¬ (0 : Int) < (numM cells V q[k] : Int) := by simp [zeroB] at hz; omega
        have Hz := Lib.hid hz
        clear hz
        have hst := HB.out.next HN.out hlt
        rw [if_pos Hz.out] at hst
        have HST := Lib.hid hst
        clear hst
        go_wp2_with fail
        refine (HNR.out q[k] _ hqk).mono ?_
        rintro e w6 ⟨v6, rfl, hown6, hb6⟩
        rw [HJN.out _ hqk] at hown6
        obtain ⟨a6, c6, hv6⟩ := hown6.shape
        simp only [nats_length] at hv6
        subst hv6
        have s6 := hb6.size
        have hap6 : Apart (.slice (some ⟨g8, off8, none⟩) q.length cap8) (.slice a6 (nearM V cells.length q[k]).length c6) := Apart.fresh hown8' (fun k hk => (hown6.lt k hk).1)
        have hown8 := hown8'.later hb6
        have hown9 := hown9'.later hb6
        have hbr := hbr5.trans (hb6.mono hsr5)
        have hown6' := hown6.mono hsr5
        have hsr6 : B ≤ w6.heap.size := by omega
        clear hown8' hown9' hbr5 hb6 hc8' hown6 hc7
        have hnl := nearM_le V cells.length q[k]
        have hnr : ∀ x ∈ nearM V cells.length q[k], x < cells.length := fun x hx => HN.out _ x hx
        have HNX := Lib.hid hnr
        have HR2 : Hid (bfs (nearM V cells.length) (zeroB cells V) [] cells.length 0 [c] = bfs (nearM V cells.length) (zeroB cells V) [] (cells.length - (k + 1)) (k + 1) (addB [] q (nearM V cells.length q[k]))) := by
          rw [Hid, HR.out, show cells.length - k = (cells.length - (k + 1)) + 1 by omega, bfs, dif_pos hlt, if_pos Hz.out]
        clear hnr HR
        generalize nearM V cells.length q[k] = near at *
        go_wp2_with fail
        go_loopw [8, 50] (fun v8 j wr => ∃ (m : Nat) (q' : List Nat), m ≤ near.length ∧ q'.length ≤ cells.length ∧ j = .int .i64 m ∧ Owns wr B 3 v8 (nats q') ∧ Owns wr B 3 v9 (nats (sortM cells.length (q.take (k + 1)))) ∧ Owns wr B 3 (.slice a6 near.length c6) (nats near) ∧ Apart v8 v9 ∧ Apart v8 (.slice a6 near.length c6) ∧ Below B w3 wr ∧ B ≤ wr.heap.size ∧ Hid (q'.Nodup ∧ ∀ x ∈ q', x < cells.length) ∧ Hid (addB [] q near = addB [] q' (near.drop m))) (fun _ j _ => near.length - (intOf j).toNat)
        case atStart => exact ⟨0, q, Nat.zero_le _, hqn, rfl, hown8, hown9, hown6', hap', hap6, hbr, hsr6, ⟨HB.out.nodup, HB.out.lt⟩, rfl⟩
        case round =>
          clear hown8 hown9 hown6' hap' hap6 hbr hsr6
          obtain ⟨m, q', hm, hqn', rfl, hown8, hown9, hown6, hap, hap6, hbr, hsrr, HD, HA⟩ := hrel
          obtain ⟨a8', cap8', hv⟩ := hown8.shape
          simp only [nats_length] at hv
          subst hv
          by_cases hmt : m < near.length
          · have Ht := Lib.hid (List.drop_eq_getElem_cons hmt)
            have hx : near[m] < cells.length := HNX.out _ (List.getElem_mem hmt)
            obtain ⟨g6, off6, rfl, hc6⟩ := nats_at hown6.at m hmt
            have hHas := l1HasN_any q' near[m] a8' cap8' wr hown8.at (by omega)
            by_cases hin : near[m] ∈ q'
            · rw [show decide (near[m] ∈ q') = true by simpa using hin] at hHas
              have HIN := Lib.hid hin
              have HH := Lib.hid hHas
              clear hin hHas
              go_wp2_with fail
              refine HH.out.mono ?_
              rintro e w7 ⟨rfl, rfl⟩
              go_wp2_with fail
              go_roundw
              case rel =>
                first
                  | exact ⟨m + 1, q', by omega, hqn', by go_num, hown8, hown9, hown6, hap, hap6, hbr, hsrr, HD, by rw [Hid, HA.out, Ht.out, addB, if_pos (.inr HIN.out)]⟩
                  | ((repeat apply Exists.intro); exact ⟨⟨m + 1, q', by omega, hqn', by go_num, hown8, hown9, hown6, hap, hap6, hbr, hsrr, HD, by rw [Hid, HA.out, Ht.out, addB, if_pos (.inr HIN.out)]⟩, rfl⟩)
              case measure => simp [intOf]; omega
            · rw [show decide (near[m] ∈ q') = false by simpa using hin] at hHas
              have HIN := Lib.hid hin
              have HH := Lib.hid hHas
              have hnd : (q' ++ [near[m]]).Nodup ∧ ∀ x ∈ q' ++ [near[m]], x < cells.length := by
                refine ⟨?_, ?_⟩
                · rw [List.nodup_append]
                  exact ⟨HD.out.1, by simp, by intro a ha b hb e; simp at hb; subst hb; subst e; exact hin ha⟩
                · intro x hx'
                  rcases List.mem_append.1 hx' with h | h
                  · exact HD.out.2 x h
                  · rw [List.mem_singleton.1 h]; exact hx
              have HND := Lib.hid hnd
              have hql := nodup_le hnd.1 hnd.2
              clear hin hHas hnd
              go_wp2_with fail
              refine HH.out.mono ?_
              rintro e w7 ⟨rfl, rfl⟩
              go_wp2_with (at_builtin; refine wpList_app1K rfl _ _ _ rfl B _ _ _ elemInt _ _ _ _ rfl rfl rfl hown8 rfl (by simp; omega) hsrr (by simp; omega) ?_; intro v7 w7 hown7 hb7 hs7 hK7)
              rw [nats_snoc] at hown7
              obtain ⟨hown97, hap97⟩ := hK7 _ _ _ _ hown9 hap
              obtain ⟨hown67, hap67⟩ := hK7 _ _ _ _ hown6 hap6
              clear hK7 hown8 hown9 hown6 hap hap6 hc6
              go_roundw
              case rel =>
                first
                  | exact ⟨m + 1, _, by omega, hql, by go_num, hown7, hown97, hown67, hap97, hap67, hbr.trans hb7, by have := hb7.size; omega, HND.out, by rw [Hid, HA.out, Ht.out, addB, if_neg (by simpa using HIN.out)]⟩
                  | ((repeat apply Exists.intro); exact ⟨⟨m + 1, _, by omega, hql, by go_num, hown7, hown97, hown67, hap97, hap67, hbr.trans hb7, by have := hb7.size; omega, HND.out, by rw [Hid, HA.out, Ht.out, addB, if_neg (by simpa using HIN.out)]⟩, rfl⟩)
              case measure => simp [intOf]; omega
          · obtain rfl : m = near.length := by omega
            have hfin : q' = addB [] q near := by rw [HA.out, List.drop_length]; rfl
            obtain ⟨t, ht⟩ := addB_pre [] near q
            have hle : k + 1 ≤ (addB [] q near).length := by rw [ht, List.length_append]; omega
            have htk2 : Hid ((addB [] q near).take (k + 1) = q.take (k + 1)) := by
              rw [Hid, ht, List.take_append_of_le_length (by omega)]
            clear ht
            subst hfin
            rw [← htk2.out] at hown9
            go_wp2_with fail
            go_roundw
            case rel =>
              first
                | exact ⟨k + 1, _, hle, hqn', by go_num, hown8, hown9, hap, hbr, hsrr, HST, HR2⟩
                | ((repeat apply Exists.intro); exact ⟨⟨k + 1, _, hle, hqn', by go_num, hown8, hown9, hap, hbr, hsrr, HST, HR2⟩, rfl⟩)
            case measure => simp [intOf]; omega
      · have hz0 : (0 : Int) < (numM cells V q[k] : Int) := by simp [zeroB] at hz; omega
        have Hz := Lib.hid hz
        clear hz
        have hst := HB.out.next HN.out hlt
        rw [if_neg Hz.out] at hst
        have HST := Lib.hid hst
        have HR2 : Hid (bfs (nearM V cells.length) (zeroB cells V) [] cells.length 0 [c] = bfs (nearM V cells.length) (zeroB cells V) [] (cells.length - (k + 1)) (k + 1) q) := by
          rw [Hid, HR.out, show cells.length - k = (cells.length - (k + 1)) + 1 by omega, bfs, dif_pos hlt, if_neg Hz.out]
        clear hst
        go_wp2_with fail
        go_roundw
        case rel =>
          first
            | exact ⟨k + 1, q, by omega, hqn, by go_num, hown8', hown9', hap', hbr5, hsr5, HST, HR2⟩
            | ((repeat apply Exists.intro); exact ⟨⟨k + 1, q, by omega, hqn, by go_num, hown8', hown9', hap', hbr5, hsr5, HST, HR2⟩, rfl⟩)
        case measure => simp [intOf]; omega
    · obtain rfl : k = q.length := by omega
      have hfin : sortM cells.length (q.take q.length) = opM cells V c := by rw [List.take_length, HO.out, HR.out, bfs_stop]
      rw [hfin] at hown9
      go_wp2_with fail
      go_ret
      obtain ⟨a', cap', hv⟩ := hown9.shape
      simp only [nats_length] at hv
      exact ⟨a', cap', by rw [← hv]; rfl, by rw [← hv]; exact hown9.mono (by have := HBB.out; omega), hb03.trans (hbr.mono (by have := HBB.out; omega))⟩

set_option maxRecDepth 100000 in
set_option maxHeartbeats 800000 in
theorem sJoinedOpened_any (l : List UInt8) (c : Int) (w : World) (hl : l.length ≤ 1048576) :
    Calls Tryd.prog 14 #[.string ⟨l.toArray⟩, .int .i64 c] w fun e w' => ∃ a cap, e = .returned (.tuple #[.slice a (jopOf l c).length cap, .bool (joOK l c)]) ∧ Owns w' w.heap.size 3 (.slice a (jopOf l c).length cap) (nats (jopOf l c)) ∧ Below w.heap.size w w' := by
  have HG := Lib.hid (fun w => joCell_any l c w hl)
  cases hc : jOK l c with
  | false =>
    have HO : Hid (joOK l c = false) := by rw [Hid, joOK, hc]; rfl
    have HN : Hid (jopOf l c = []) := by rw [Hid, jopOf, HO.out]; rfl
    rw [hc] at HG
    clear hc
    go_enter Tryd.func14, Tryd.ntmps14
    go_wp2_with fail
    refine (HG.out _).mono ?_
    rintro e w1 ⟨rfl, hb1⟩
    go_wp2_with fail
    go_ret2
    exact ⟨none, 0, by rw [HN.out, HO.out]; rfl, by rw [HN.out]; exact Owns.nil _ _ _, hb1⟩
  | true =>
    obtain ⟨hj, k, rfl, hk⟩ := jOK_at hc
    have hB := Brd.g (joB_good hj)
    have HC := Lib.hid (fun w => boCells_any l w hl)
    rw [hB.cs] at HC
    have hsg := hB.sign _ (List.getElem_mem hk)
    have hgd : (jC l).getD k 0 = (gCells l)[k] := by rw [(jC_yes hj).1]; simp [List.getD, hk]
    have h64 := hB.n64
    rw [hc] at HG
    by_cases h42 : (gCells l)[k] = 42
    · have hd : (((gCells l)[k].toNat : Int) != 46) = true := by rw [h42]; rfl
      have HO : Hid (joOK l (k : Int) = false) := by rw [Hid, joOK, hc, Int.toNat_natCast, hgd, h42]; rfl
      have HN : Hid (jopOf l (k : Int) = []) := by rw [Hid, jopOf, HO.out]; rfl
      clear hc h42 hgd hsg hB
      go_enter Tryd.func14, Tryd.ntmps14
      go_wp2_with fail
      refine (HG.out _).mono ?_
      rintro e w1 ⟨rfl, hb1⟩
      go_wp2_with fail
      refine (HC.out _).mono ?_
      rintro e w1' ⟨rfl, rfl⟩
      go_wp2_with fail
      go_ret2
      exact ⟨none, 0, by rw [HN.out, HO.out]; rfl, by rw [HN.out]; exact Owns.nil _ _ _, hb1⟩
    · have h46 : (gCells l)[k] = 46 := hsg.resolve_right h42
      have hd : (((gCells l)[k].toNat : Int) != 46) = false := by rw [h46]; rfl
      have HO : Hid (joOK l (k : Int) = true) := by rw [Hid, joOK, hc, Int.toNat_natCast, hgd]; simp [h42]
      have HN : Hid (jopOf l (k : Int) = opM (gCells l) (.around (gW l) (gH l)) k) := by
        rw [Hid, jopOf, if_pos HO.out, jG_yes hj, (jC_yes hj).1]; rfl
      have HK := Lib.hid (fun w => joClick_any l k w hl hj hk)
      clear hc h42 h46 hgd hsg hB
      go_enter Tryd.func14, Tryd.ntmps14
      go_wp2_with fail
      refine (HG.out _).mono ?_
      rintro e w1 ⟨rfl, hb1⟩
      go_wp2_with fail
      refine (HC.out _).mono ?_
      rintro e w1' ⟨rfl, rfl⟩
      go_wp2_with fail
      refine (HK.out _).mono ?_
      rintro e w2 ⟨a, cap, rfl, hown, hb2⟩
      go_wp2_with fail
      go_ret2
      exact ⟨a, cap, by rw [HN.out, HO.out]; rfl, by rw [HN.out]; exact hown.mono hb1.size, hb1.trans (hb2.mono hb1.size)⟩
end Go.Proofs.YtbnoallcdjpihaaDoor
