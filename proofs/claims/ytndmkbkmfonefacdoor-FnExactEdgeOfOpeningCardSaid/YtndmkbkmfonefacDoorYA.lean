/- Opening: the search over zeros, by the model, walked. -/
import Derived.Test.YtndmkbkmfonefacDoorY9
import Derived.Outline
namespace Go.Proofs.YtndmkbkmfonefacDoor
open Go.RowKit

/-- boNear of the model, over numbers. -/
theorem boNearN_any (W H n c : Nat) (w : World) (hW : 1 ≤ W ∧ W ≤ 8) (hH : H ≤ 8) (hn : n = W * H) (hc : c < n) :
    Calls Tryd.prog 73 #[.int .i64 W, .int .i64 H, .int .i64 c] w fun e w' => ∃ a cap, e = .returned (.slice a (nearM W n c).length cap) ∧ Owns w' w.heap.size 3 (.slice a (nearM W n c).length cap) (nats (nearM W n c)) ∧ Below w.heap.size w w' := by
  subst hn
  have h64 : W * H ≤ 64 := Nat.mul_le_mul hW.2 hH
  have h := boNear_any W H c w hW hH (by omega)
  rw [near_eq W H c hW.2 hH hc, List.length_map] at h
  exact h

set_option maxRecDepth 100000 in
set_option maxHeartbeats 3200000 in
theorem opClick_any (l : List UInt8) (W H : Nat) (cells : List UInt8) (c : Nat) (w : World) (hl : l.length ≤ 1048576) (hB : Brd l W H cells) (hc : c < cells.length) :
    Calls Tryd.prog 44 #[.string ⟨l.toArray⟩, .int .i64 (c : Int)] w fun e w' => ∃ a cap, e = .returned (.slice a (opM cells W c).length cap) ∧ Owns w' w.heap.size 3 (.slice a (opM cells W c).length cap) (nats (opM cells W c)) ∧ Below w.heap.size w w' := by
  have hn64 := hB.n64
  have HS := Lib.hid hB.size
  have HC := Lib.hid hB.cs
  have HL := Lib.hid hB.len
  have hw1 := hB.w1
  have hw8 := hB.w8
  have hh8 := hB.h8
  have hnlt : ∀ y, ∀ x ∈ nearM W cells.length y, x < cells.length := fun y x hx => nearM_lt W cells.length y x hx
  have HN := Lib.hid hnlt
  have hBq0 : Hid (Bq (nearM W cells.length) (zeroB cells W) [] cells.length c 0 [c]) := Bq.start hc
  have HO : Hid (opM cells W c = sortM cells.length (bfs (nearM W cells.length) (zeroB cells W) [] cells.length 0 [c])) := rfl
  clear hB hnlt
  go_enter Tryd.func44, Tryd.ntmps44
  go_wp2_with fail
  refine (boSize_any l _ hl).mono ?_
  rintro e w1 ⟨rfl, hb1⟩
  rw [HS.out]
  go_wp2_with fail
  refine (boCells_any l _ hl).mono ?_
  rintro e w1' ⟨rfl, rfl⟩
  rw [HC.out]
  go_wp2_with fail
  have s1 := hb1.size
  have hb2 : Below w.heap.size w ((w1.alloc (.cells #[.int .i64 (c : Int)] 3)).alloc (.cells #[.int .i64 (c : Int)] 3)) := (hb1.alloc s1 _).alloc (by simp; omega) _
  have hown8 : Owns ((w1.alloc (.cells #[.int .i64 (c : Int)] 3)).alloc (.cells #[.int .i64 (c : Int)] 3)) w.heap.size 3 (.slice (some ⟨w1.heap.size, 0, none⟩) 1 1) (nats [c]) := (Owns.one w1 w.heap.size _ _ s1).later ((Below.refl _ _).alloc (Nat.le_refl _) _)
  have hown9 : Owns ((w1.alloc (.cells #[.int .i64 (c : Int)] 3)).alloc (.cells #[.int .i64 (c : Int)] 3)) w.heap.size 3 (.slice (some ⟨w1.heap.size + 1, 0, none⟩) 1 1) (nats [c]) := by
    have := Owns.one (w1.alloc (.cells #[.int .i64 (c : Int)] 3)) w.heap.size 3 (.int .i64 (c : Int)) (by simp; omega)
    simpa [nats, ints] using this
  have hap : Apart (.slice (some ⟨w1.heap.size + 1, 0, none⟩) 1 1) (.slice (some ⟨w1.heap.size, 0, none⟩) 1 1) := by
    intro k hk hk2
    simp [Value.ownBlock] at hk hk2
    omega
  have hso : [c] = sortM cells.length [c] := rise_sortM (by simp) (by simpa using hc)
  rw [hso] at hown8
  generalize (w1.alloc (.cells #[.int .i64 (c : Int)] 3)).alloc (.cells #[.int .i64 (c : Int)] 3) = w2 at *
  clear hso hb1
  go_loopw [8, 9, 10] (fun v8 v9 i wr => ∃ (k : Nat) (q : List Nat), k ≤ q.length ∧ q.length ≤ cells.length ∧ i = .int .i64 k ∧ Owns wr w.heap.size 3 v9 (nats q) ∧ Owns wr w.heap.size 3 v8 (nats (sortM cells.length q)) ∧ Apart v9 v8 ∧ Below w.heap.size w wr ∧ Hid (Bq (nearM W cells.length) (zeroB cells W) [] cells.length c k q) ∧ Hid (bfs (nearM W cells.length) (zeroB cells W) [] cells.length 0 [c] = bfs (nearM W cells.length) (zeroB cells W) [] (cells.length - k) k q)) (fun _ _ i _ => cells.length - (intOf i).toNat)
  case atStart => exact ⟨0, [c], by simp, by simp; omega, rfl, hown9, hown8, hap, hb2, hBq0, rfl⟩
  case round =>
    clear hown8 hown9 hap hb2
    obtain ⟨k, q, hkq, hqn, rfl, hown9, hown8, hap, hbr, HB, HR⟩ := hrel
    obtain ⟨a9, cap9, hv⟩ := hown9.shape
    simp only [nats_length] at hv
    subst hv
    by_cases hlt : k < q.length
    · have hqk : q[k] < cells.length := HB.out.lt _ (List.getElem_mem hlt)
      obtain ⟨g9, off9, rfl, hc9⟩ := nats_at hown9.at k hlt
      by_cases hz : zeroB cells W q[k] = true
      · have hz0 : ¬ (0 : Int) < (numM cells W q[k] : Int) := by simp [zeroB] at hz; omega
        have Hz := Lib.hid hz
        clear hz
        go_wp2_with fail
        refine (boNumber_any W H cells q[k] _ ⟨hw1, hw8⟩ hh8 HL.out hqk).mono ?_
        rintro e w3 ⟨rfl, hb3⟩
        have hown9' := hown9.later hb3
        have hown8' := hown8.later hb3
        have hbr' := hbr.trans (hb3.mono hbr.size)
        obtain ⟨g9', off9', he9, hc9'⟩ := nats_at hown9'.at k hlt
        simp only [Option.some.injEq, Addr.mk.injEq, and_true] at he9
        obtain ⟨rfl, rfl⟩ := he9
        clear hc9 hown9 hown8 hbr hb3
        go_wp2_with fail
        refine (boNearN_any W H cells.length q[k] _ ⟨hw1, hw8⟩ hh8 HL.out hqk).mono ?_
        rintro e w4 ⟨a4, cap4, rfl, hown4, hb4⟩
        have s3 := hbr'.size
        have s4 := hb4.size
        have hap4 : Apart (.slice (some ⟨g9, off9, none⟩) q.length cap9) (.slice a4 (nearM W cells.length q[k]).length cap4) := Apart.fresh hown9' (fun k hk => (hown4.lt k hk).1)
        have hown9 := hown9'.later hb4
        have hown8 := hown8'.later hb4
        have hbr := hbr'.trans (hb4.mono hbr'.size)
        clear hown9' hown8' hbr' hb4 hc9'
        have hnl := nearM_le W cells.length q[k]
        have hst := HB.out.next HN.out hlt
        rw [if_pos Hz.out] at hst
        have HST := Lib.hid hst
        have hnr : ∀ x ∈ nearM W cells.length q[k], x < cells.length := fun x hx => HN.out _ x hx
        have HNR := Lib.hid hnr
        have HR2 : Hid (bfs (nearM W cells.length) (zeroB cells W) [] cells.length 0 [c] = bfs (nearM W cells.length) (zeroB cells W) [] (cells.length - (k + 1)) (k + 1) (addB [] q (nearM W cells.length q[k]))) := by
          rw [Hid, HR.out, show cells.length - k = (cells.length - (k + 1)) + 1 by omega, bfs, dif_pos hlt, if_pos Hz.out]
        clear hst hnr HR
        generalize nearM W cells.length q[k] = near at *
        go_wp2_with fail
        go_loopw [8, 9, 46] (fun v8 v9 j wr => ∃ (m : Nat) (q' : List Nat), m ≤ near.length ∧ q'.length ≤ cells.length ∧ j = .int .i64 m ∧ Owns wr w.heap.size 3 v9 (nats q') ∧ Owns wr w.heap.size 3 v8 (nats (sortM cells.length q')) ∧ Owns wr w.heap.size 3 (.slice a4 near.length cap4) (nats near) ∧ Apart v9 v8 ∧ Apart v9 (.slice a4 near.length cap4) ∧ Below w.heap.size w wr ∧ Hid (q'.Nodup ∧ ∀ x ∈ q', x < cells.length) ∧ Hid (addB [] q near = addB [] q' (near.drop m))) (fun _ _ j _ => near.length - (intOf j).toNat)
        case atStart => exact ⟨0, q, Nat.zero_le _, hqn, rfl, hown9, hown8, hown4.mono (by omega), hap, hap4, hbr, ⟨HB.out.nodup, HB.out.lt⟩, rfl⟩
        case round =>
          clear hown9 hown8 hown4 hap hap4 hbr
          obtain ⟨m, q', hm, hqn', rfl, hown9, hown8, hown4, hap, hap4, hbr, HD, HA⟩ := hrel
          obtain ⟨a9', cap9', hv⟩ := hown9.shape
          simp only [nats_length] at hv
          subst hv
          have sr := hbr.size
          by_cases hmt : m < near.length
          · have Ht := Lib.hid (List.drop_eq_getElem_cons hmt)
            have hx : near[m] < cells.length := HNR.out _ (List.getElem_mem hmt)
            obtain ⟨g4, off4, rfl, hc4⟩ := nats_at hown4.at m hmt
            have hHas := l1HasN_any q' near[m] a9' cap9' wr hown9.at (by omega)
            by_cases hin : near[m] ∈ q'
            · rw [show decide (near[m] ∈ q') = true by simpa using hin] at hHas
              have HIN := Lib.hid hin
              have HH := Lib.hid hHas
              clear hin hHas
              go_wp2_with fail
              refine HH.out.mono ?_
              rintro e w5 ⟨rfl, rfl⟩
              go_wp2_with fail
              go_roundw
              case rel =>
                first
                  | exact ⟨m + 1, q', by omega, hqn', by go_num, hown9, hown8, hown4, hap, hap4, hbr, HD, by rw [Hid, HA.out, Ht.out, addB, if_pos (.inr HIN.out)]⟩
                  | ((repeat apply Exists.intro); exact ⟨⟨m + 1, q', by omega, hqn', by go_num, hown9, hown8, hown4, hap, hap4, hbr, HD, by rw [Hid, HA.out, Ht.out, addB, if_pos (.inr HIN.out)]⟩, rfl⟩)
              case measure => simp [intOf]; omega
            · rw [show decide (near[m] ∈ q') = false by simpa using hin] at hHas
              have HIN := Lib.hid hin
              have HH := Lib.hid hHas
              have hnd : (q' ++ [near[m]]).Nodup ∧ ∀ x ∈ q' ++ [near[m]], x < cells.length := by
                refine ⟨?_, ?_⟩
                · rw [List.nodup_append]
                  exact ⟨HD.out.1, by simp, by intro a ha b hb e; simp at hb; subst hb; subst e; exact hin ha⟩
                · intro x hx'
                  rcases List.mem_append.1 hx' with h | h
                  · exact HD.out.2 x h
                  · rw [List.mem_singleton.1 h]; exact hx
              have HND := Lib.hid hnd
              have hql := nodup_le hnd.1 hnd.2
              have hsl := sortM_le cells.length q'
              clear hin hHas hnd
              go_wp2_with fail
              refine HH.out.mono ?_
              rintro e w5 ⟨rfl, rfl⟩
              go_wp2_with (at_builtin; refine wpList_app1K rfl _ _ _ rfl w.heap.size _ _ _ elemInt _ _ _ _ rfl rfl rfl hown9 rfl (by simp; omega) sr (by simp; omega) ?_; intro v6 w6 hown6 hb6 hs6 hK6)
              rw [nats_snoc] at hown6
              obtain ⟨hown86, hap86⟩ := hK6 _ _ _ _ hown8 hap
              obtain ⟨hown46, hap46⟩ := hK6 _ _ _ _ hown4 hap4
              have s6 := hb6.size
              clear hK6 hown9 hown8 hown4 hap hap4 hc4
              refine (l1Put_any (sortM cells.length q') near[m] u8 w.heap.size w6 hown86 (by omega) (by omega)).mono ?_
              rintro e w7 ⟨v7, rfl, hown7, hb7, hor⟩
              rw [putM_sort HD.out.2 hx] at hown7
              have hap7 : Apart v6 v7 := by
                rcases hor with rfl | hor
                · exact hap86
                · exact Apart.fresh hown6 hor
              go_wp2_with fail
              go_roundw
              case rel =>
                first
                  | exact ⟨m + 1, _, by omega, hql, by go_num, hown6.later hb7, hown7, hown46.later hb7, hap7, hap46, (hbr.trans hb6).trans (hb7.mono (by omega)), HND.out, by rw [Hid, HA.out, Ht.out, addB, if_neg (by simpa using HIN.out)]⟩
                  | ((repeat apply Exists.intro); exact ⟨⟨m + 1, _, by omega, hql, by go_num, hown6.later hb7, hown7, hown46.later hb7, hap7, hap46, (hbr.trans hb6).trans (hb7.mono (by omega)), HND.out, by rw [Hid, HA.out, Ht.out, addB, if_neg (by simpa using HIN.out)]⟩, rfl⟩)
              case measure => simp [intOf]; omega
          · obtain rfl : m = near.length := by omega
            have hfin : q' = addB [] q near := by rw [HA.out, List.drop_length]; rfl
            have hle : k + 1 ≤ (addB [] q near).length := by
              obtain ⟨t, ht⟩ := addB_pre [] near q
              rw [ht, List.length_append]
              omega
            subst hfin
            go_wp2_with fail
            go_roundw
            case rel =>
              first
                | exact ⟨k + 1, _, hle, hqn', by go_num, hown9, hown8, hap, hbr, HST, HR2⟩
                | ((repeat apply Exists.intro); exact ⟨⟨k + 1, _, hle, hqn', by go_num, hown9, hown8, hap, hbr, HST, HR2⟩, rfl⟩)
            case measure => simp [intOf]; omega
      · have hz0 : (0 : Int) < (numM cells W q[k] : Int) := by simp [zeroB] at hz; omega
        have Hz := Lib.hid hz
        clear hz
        go_wp2_with fail
        refine (boNumber_any W H cells q[k] _ ⟨hw1, hw8⟩ hh8 HL.out hqk).mono ?_
        rintro e w3 ⟨rfl, hb3⟩
        have hst := HB.out.next HN.out hlt
        rw [if_neg Hz.out] at hst
        have HST := Lib.hid hst
        have HR2 : Hid (bfs (nearM W cells.length) (zeroB cells W) [] cells.length 0 [c] = bfs (nearM W cells.length) (zeroB cells W) [] (cells.length - (k + 1)) (k + 1) q) := by
          rw [Hid, HR.out, show cells.length - k = (cells.length - (k + 1)) + 1 by omega, bfs, dif_pos hlt, if_neg Hz.out]
        clear hst
        go_wp2_with fail
        go_roundw
        case rel =>
          first
            | exact ⟨k + 1, q, by omega, hqn, by go_num, hown9.later hb3, hown8.later hb3, hap, hbr.trans (hb3.mono hbr.size), HST, HR2⟩
            | ((repeat apply Exists.intro); exact ⟨⟨k + 1, q, by omega, hqn, by go_num, hown9.later hb3, hown8.later hb3, hap, hbr.trans (hb3.mono hbr.size), HST, HR2⟩, rfl⟩)
        case measure => simp [intOf]; omega
    · obtain rfl : k = q.length := by omega
      have hfin : sortM cells.length q = opM cells W c := by rw [HO.out, HR.out, bfs_stop]
      rw [hfin] at hown8
      go_wp2_with fail
      go_ret
      obtain ⟨a', cap', hv⟩ := hown8.shape
      simp only [nats_length] at hv
      exact ⟨a', cap', by rw [← hv]; rfl, by rw [← hv]; exact hown8, hbr⟩

end Go.Proofs.YtndmkbkmfonefacDoor
