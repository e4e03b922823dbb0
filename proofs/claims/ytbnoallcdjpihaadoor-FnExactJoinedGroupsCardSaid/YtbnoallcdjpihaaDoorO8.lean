/- Joined boards by the model: groups of mines around. -/
import Derived.Test.YtbnoallcdjpihaaDoorO7
import Derived.Test.YtbnoallcdjpihaaDoorQ9
import Derived.Outline
namespace Go.Proofs.YtbnoallcdjpihaaDoor
open Go.RowKit

theorem Fam.add {w : World} {B C e : Nat} {v : Value} {xs : List Value} {F : List Rw} (h : Fam w B F) (ho : Owns w C e v xs) (hC : B ≤ C) (hap : ∀ x ∈ F, Apart v x.1) : Fam w B ((v, e, xs) :: F) := by
  refine ⟨?_, List.pairwise_cons.2 ⟨hap, h.apart⟩⟩
  intro x hx
  rcases List.mem_cons.1 hx with rfl | hx
  · exact ho.mono hC
  · exact h.own x hx
/-- Two rows of another call come to a family. -/
theorem Fam.fresh22 {w w' : World} {B e e' : Nat} {v v' : Value} {xs xs' : List Value} {F : List Rw} (h : Fam w B F) (hb : Below w.heap.size w w') (ho : Owns w' w.heap.size e v xs) (ho' : Owns w' w.heap.size e' v' xs') (hap : Apart v v') (hB : B ≤ w.heap.size) : Fam w' B ((v', e', xs') :: (v, e, xs) :: F) := by
  have h1 := h.fresh hb ho hB
  refine h1.add ho' hB ?_
  intro x hx
  rcases List.mem_cons.1 hx with rfl | hx
  · exact hap.symm
  · exact (Apart.fresh (h.own x hx) (fun k hk => (ho'.lt k hk).1)).symm
theorem jgM_len (l : List UInt8) : (jgM l).length ≤ 64 := Nat.le_trans (grpsGo_len _ _) (Nat.le_trans (places_le 42 (jC l)) (jC_le l))
theorem jgM_row (l : List UInt8) (g : List Nat) (h : g ∈ jgM l) : g.length ≤ 64 := Nat.le_trans (grpsGo_row _ _ g h) (jC_le l)
theorem jgM_none {l : List UInt8} (h : joB l = false) : jgM l = [] := by
  have e : minM (jC l) = [] := by rw [(jC_no h).1]; rfl
  rw [jgM, e]; rfl
theorem jgM_seen {l : List UInt8} (hj : joB l = true) : grpsSeen (.around (gW l) (gH l)) (gW l) (gCells l).length ((minM (gCells l)).map (spOf (gW l))) [] (minM (gCells l)) = jgM l := by
  have hW : 1 ≤ gW l := (Brd.g (joB_good hj)).w1
  rw [jgM, jG_yes hj, (jC_yes hj).1, (jC_yes hj).2.1]
  refine grps_same hW (fun p hp => ?_) _ _ _ (fun k hk => List.mem_map_of_mem hk) (fun p hp => hp) (fun p q _ hq _ => hq) (fun p hp => by simp; exact List.mem_map.1 hp)
  obtain ⟨k, hk, rfl⟩ := List.mem_map.1 hp
  have := spOf_lt hW k
  exact ⟨this.1, by rw [this.2]; exact minM_lt hk⟩
theorem perm_six {α : Type} (g q s u : α) (r : List α) : (g :: q :: s :: u :: r).Perm (s :: q :: g :: u :: r) := by
  have h1 : (g :: q :: s :: u :: r).Perm (s :: g :: q :: u :: r) := ((List.Perm.swap s q (u :: r)).cons g).trans (List.Perm.swap s g (q :: u :: r))
  exact h1.trans ((List.Perm.swap q g (u :: r)).cons s)
theorem perm_sev {α : Type} (s q g u : α) (r : List α) : (s :: q :: g :: u :: r).Perm (u :: s :: q :: g :: r) :=
  ((((List.Perm.swap u g r).cons q).trans (List.Perm.swap u q (g :: r))).cons s).trans (List.Perm.swap u s (q :: g :: r))
theorem perm_eig {α : Type} (u s q g : α) (r : List α) : (u :: s :: q :: g :: r).Perm (q :: s :: u :: (r ++ [g])) := by
  have h1 : (u :: s :: q :: g :: r).Perm (q :: s :: u :: g :: r) := (((List.Perm.swap q s (g :: r)).cons u).trans (List.Perm.swap q u (s :: g :: r))).trans ((List.Perm.swap s u (g :: r)).cons q)
  exact h1.trans ((((List.perm_append_singleton g r).symm.cons u).cons s).cons q)

set_option maxRecDepth 100000 in
set_option maxHeartbeats 3200000 in
theorem sJoinedGroups_any (l : List UInt8) (w : World) (hl : l.length ≤ 1048576) :
    Calls Tryd.prog 9 #[.string ⟨l.toArray⟩] w fun e w' => ∃ a cap us, e = .returned (.tuple #[.slice a (jgM l).length cap, .bool (joB l)]) ∧ us.length = (jgM l).length ∧
      Fam w' w.heap.size ((.slice a (jgM l).length cap, 30, us) :: rowsF us (jgM l)) ∧ Below w.heap.size w w' := by
  have HG := Lib.hid (fun w => joGood_any l w hl)
  cases hj : joB l with
  | false =>
    rw [hj] at HG
    have hN := Lib.hid (jgM_none hj)
    clear hj
    go_enter Tryd.func9, Tryd.ntmps9
    go_wp2_with fail
    refine (HG.out _).mono ?_
    rintro e w1 ⟨rfl, hb⟩
    go_wp2_with fail
    go_ret2
    refine ⟨none, 0, [], by rw [hN.out]; rfl, by rw [hN.out]; rfl, by rw [hN.out]; exact (Fam.empty _ _).nil, hb⟩
  | true =>
    rw [hj] at HG
    have hB := Brd.g (joB_good hj)
    have hs := joB_sizes hj
    have HS := Lib.hid (fun w => boSize_any l w hl)
    rw [hB.size] at HS
    have HC := Lib.hid (fun w => boCells_any l w hl)
    rw [hB.cs] at HC
    have h64 := hB.n64
    have HMN := Lib.hid (fun w => boMines_any (gCells l) 42 42 rfl w (by omega))
    have HNR := Lib.hid (fun (c : Nat) (w : World) (hc : c < (gCells l).length) => joNear_any (gW l) (gH l) c ⟨hB.w1, hB.w8⟩ ⟨hB.h1, hB.h8⟩ (by rw [← hB.len]; exact hc) w)
    have HJN : Hid (∀ c, c < (gCells l).length → joN (gW l) (gH l) c = nearM (.around (gW l) (gH l)) (gCells l).length c) := fun c hc => by rw [hB.len]; exact joN_eq (gW l) (gH l) c ⟨hs.1, hB.w8⟩ ⟨hs.2, hB.h8⟩ (by rw [← hB.len]; exact hc)
    have HSP : Hid (∀ c x, nbW (.around (gW l) (gH l)) c x = nbS (.around (gW l) (gH l)) (spOf (gW l) c) (spOf (gW l) x)) := fun c x => nbW_spA _ _ c x
    have hgm := jgM_seen hj
    have hnd : (minM (gCells l)).Nodup := (placesGo_rise 42 (gCells l) 0).1.imp (fun h => Nat.ne_of_lt h)
    have hms : ∀ k, k ∈ minM (gCells l) → k < (gCells l).length := fun k hk => minM_lt hk
    have hml : (minM (gCells l)).length ≤ 64 := by have := places_le 42 (gCells l); unfold minM; omega
    have HMM : Hid (places 42 (gCells l) = minM (gCells l)) := rfl
    rw [HMM.out] at HMN
    have hW := hB.w1
    clear hj hB hs HMM
    generalize hVV : Geo.around (gW l) (gH l) = V at *
    generalize gW l = W at *
    generalize gH l = H at *
    generalize (gCells l).length = n at *
    generalize jgM l = gom at *
    generalize minM (gCells l) = ms at *
    generalize gCells l = cells at *
    clear hVV
    have HGM : Hid (gom = [] ++ grpsSeen V W n (ms.map (spOf W)) [] (ms.drop 0)) := hgm.symm
    clear hgm
    go_enter Tryd.func9, Tryd.ntmps9
    go_wp2_with fail
    refine (HG.out _).mono ?_
    rintro e w1 ⟨rfl, hb⟩
    go_wp2_with fail
    refine (HS.out _).mono ?_
    rintro e w2 ⟨rfl, hb2⟩
    go_wp2_with fail
    refine (HC.out _).mono ?_
    rintro e w3 ⟨rfl, rfl⟩
    go_wp2_with fail
    refine (HMN.out _).mono ?_
    rintro e w4 ⟨am, cm, rfl, hom, hb4⟩
    have s1 := hb.size
    have s2 := hb2.size
    have s4 := hb4.size
    have hb04 : Below w.heap.size w w4 := (hb.trans (hb2.mono s1)).trans (hb4.mono (by omega))
    have hat := hom.at
    clear hom hb hb2 hb4
    go_wp2_with fail
    go_loopw [7, 8, 29] (fun v7 v8 i wr => ∃ (k : Nat) (us : List Value) (acc : List (List Nat)) (S : List Nat), k ≤ ms.length ∧ i = .int .i64 k ∧ us.length = acc.length ∧ acc.length ≤ k ∧ S.length ≤ 64 * k ∧ Hid (gom = acc ++ grpsSeen V W n (ms.map (spOf W)) S (ms.drop k)) ∧ Fam wr w4.heap.size ((v8, 3, nats S) :: (v7, 30, us) :: rowsF us acc) ∧ Below w4.heap.size w4 wr) (fun _ _ i _ => ms.length - (intOf i).toNat)
    case atStart => exact ⟨0, [], [], [], Nat.zero_le _, rfl, rfl, Nat.le_refl _, by simp, HGM, (Fam.empty _ _).nil.nil, Below.refl _ _⟩
    case round =>
      obtain ⟨k, us, acc, S, hk, rfl, hus, hak, hSl, hgo, hF, hbr⟩ := hrel
      have HUS := Lib.hid hus
      have hus2 : us.length ≤ 64 := by omega
      have sr := hbr.size
      clear hus
      obtain ⟨a8, c8, hv8⟩ := hF.head.shape
      simp only [nats_length] at hv8
      subst hv8
      by_cases hlt : k < ms.length
      · have hcm := List.getElem_mem hlt
        have hcn := hms _ hcm
        have Ht := Lib.hid (List.drop_eq_getElem_cons hlt)
        have hatr : At wr am (nats ms) := hat.below hat (Nat.le_refl _) hbr
        have hHas := l1HasN_any S ms[k] a8 c8 wr hF.head.at (by omega)
        obtain ⟨g0, off0, he0, hc0⟩ := nats_at hatr k hlt
        by_cases hin : ms[k] ∈ S
        · rw [decide_eq_true hin] at hHas
          have hgo2 : Hid (gom = acc ++ grpsSeen V W n (ms.map (spOf W)) S (ms.drop (k + 1))) := by rw [Hid, hgo.out, Ht.out, grpsSeen, if_pos hin]
          subst he0
          have HH := Lib.hid hHas
          clear hin hHas
          go_wp2_with fail
          refine HH.out.mono ?_
          rintro e w5 ⟨rfl, rfl⟩
          go_wp2_with fail
          go_roundw
          case rel =>
            first
              | exact ⟨k + 1, us, acc, S, by omega, by go_num, HUS.out, by omega, by omega, hgo2, hF, hbr⟩
              | ((repeat apply Exists.intro); exact ⟨⟨k + 1, us, acc, S, by omega, by go_num, HUS.out, by omega, by omega, hgo2, hF, hbr⟩, rfl⟩)
          case measure => simp [intOf]; omega
        · rw [decide_eq_false hin] at hHas
          have HIN := Lib.hid hin
          have HH := Lib.hid hHas
          have HE0 := Lib.hid he0
          subst he0
          clear hin hHas
          go_wp2_with fail
          refine HH.out.mono ?_
          rintro e w5 ⟨rfl, rfl⟩
          go_wp2_with fail
          have hQ1 : Owns (wr.alloc (.cells #[.int .i64 (ms[k] : Int)] 3)) wr.heap.size 3 (.slice (some ⟨wr.heap.size, 0, none⟩) 1 1) (nats [ms[k]]) := Owns.one wr wr.heap.size 3 (.int .i64 (ms[k] : Int)) (Nat.le_refl _)
          have hba : Below wr.heap.size wr (wr.alloc (.cells #[.int .i64 (ms[k] : Int)] 3)) := (Below.refl _ _).alloc (Nat.le_refl _) _
          generalize wr.alloc (.cells #[.int .i64 (ms[k] : Int)] 3) = wq at *
          generalize wr = wA at *
          generalize hc : ms[k] = c at *
          have HC2 := Lib.hid hc
          clear hc hc0
          go_loopw [11, 12, 13] (fun v11 v12 i w2 => ∃ (Q : List Nat) (j : Nat), i = .int .i64 j ∧ j ≤ Q.length ∧ Owns w2 wA.heap.size 3 v11 (nats Q) ∧ Owns w2 wA.heap.size 3 v12 (nats (sortM n (Q.take j))) ∧ Apart v11 v12 ∧ Q.Nodup ∧ Hid (c ∈ Q) ∧ Hid (∀ x, x ∈ Q → x ∈ ms ∧ Conn V (ms.map (spOf W)) (spOf W c) (spOf W x)) ∧ Hid (∀ m, (h : m < Q.length) → m < j → ∀ x, x ∈ ms → nbW V Q[m] x = true → x ∈ Q) ∧ Below wA.heap.size wA w2) (fun _ _ i _ => 64 - (intOf i).toNat)
          case atStart => exact ⟨[c], 0, rfl, by simp, hQ1, by rw [show sortM n (List.take 0 [c]) = [] by simp [sortM]]; exact Owns.nil _ _ _, (by intro k _ hk2; simp [Value.ownBlock] at hk2), by simp, Lib.hid (by simp), Lib.hid (fun x hx => by rw [List.mem_singleton] at hx; rw [hx]; exact ⟨hcm, .base⟩), Lib.hid (fun m _ hm => absurd hm (by omega)), hba⟩
          case round =>
            obtain ⟨Q, j, rfl, hj, hQ, hG, hap, hQn, hcQ, hQc, hQcl, hb2⟩ := hrel
            have hQl := nodup_le hQn (fun x hx => hms x (hQc.out x hx).1)
            obtain ⟨a11, c11, hv11⟩ := hQ.shape
            simp only [nats_length] at hv11
            subst hv11
            have s2 := hb2.size
            by_cases hjl : j < Q.length
            · have hqn := hms _ (hQc.out _ (List.getElem_mem hjl)).1
              have hQlt := fun x (hx : x ∈ Q) => hms x (hQc.out x hx).1
              obtain ⟨g1, off1, he1, hc1⟩ := nats_at hQ.at j hjl
              have hgl := sortM_le n (Q.take j)
              have htk : Hid (Q.take (j + 1) = Q.take j ++ [Q[j]]) := List.take_succ_eq_append_getElem hjl
              subst he1
              go_wp2_with fail
              refine (l1Put_any (sortM n (Q.take j)) Q[j] u12 wA.heap.size _ hG (by omega) s2).mono ?_
              rintro e w6 ⟨v12, rfl, hG', hb6, hor⟩
              rw [putM_sort (fun x hx => hQlt x (List.mem_of_mem_take hx)) hqn, ← htk.out] at hG'
              have hQ' := hQ.later hb6
              have hap' : Apart (.slice (some ⟨g1, off1, none⟩) Q.length c11) v12 := by
                rcases hor with rfl | hor
                · exact hap
                · exact Apart.fresh hQ hor
              have hb26 : Below wA.heap.size wA w6 := hb2.trans (hb6.mono s2)
              have s6 := hb6.size
              obtain ⟨g1', off1', he1, hc1'⟩ := nats_at hQ'.at j hjl
              simp only [Option.some.injEq, Addr.mk.injEq, and_true] at he1
              obtain ⟨rfl, rfl⟩ := he1
              clear hc1 hQ hG hap hb6 hor
              go_wp2_with fail
              refine (HNR.out Q[j] _ hqn).mono ?_
              rintro e w3 ⟨v3, rfl, hN3, hb3⟩
              rw [HJN.out _ hqn] at hN3
              obtain ⟨a41, c41, hv3⟩ := hN3.shape
              simp only [nats_length] at hv3
              subst hv3
              have hnl : (nearM V n Q[j]).length ≤ 64 := Nat.le_trans (nearM_le _ _ _) h64
              have hmx := fun x (hx : x ∈ nearM V n Q[j]) => nearM_lt V n Q[j] x hx
              have hnb : Hid (∀ x, x ∈ nearM V n Q[j] ↔ x < n ∧ nbW V Q[j] x = true) := fun x => mem_nearM V n Q[j] x
              have hQ3 := hQ'.later hb3
              have hG3 := hG'.later hb3
              have hap3 : Apart (.slice (some ⟨g1, off1, none⟩) Q.length c11) (.slice a41 (nearM V n Q[j]).length c41) := Apart.fresh hQ' (fun k hk => (hN3.lt k hk).1)
              have hN3' := hN3.mono (show wA.heap.size ≤ w6.heap.size by omega)
              have s3 := hb3.size
              have hb23 : Below wA.heap.size wA w3 := hb26.trans (hb3.mono (by omega))
              have hms3 : At w3 (some ⟨g0, off0, none⟩) (nats ms) := hat.below hat (Nat.le_refl _) (hbr.trans (hb23.mono sr))
              clear hN3 hc1' hQ' hG'
              generalize hNe : nearM V n Q[j] = N at *
              have HNE := Lib.hid hNe
              clear hNe
              go_wp2_with fail
              go_loopw [11, 58] (fun v11 i w4' => ∃ m : Nat, m ≤ N.length ∧ i = .int .i64 m ∧ Owns w4' wA.heap.size 3 v11 (nats (addM ms Q (N.take m))) ∧ Owns w4' wA.heap.size 3 v12 (nats (sortM n (Q.take (j + 1)))) ∧ Owns w4' wA.heap.size 3 (.slice a41 N.length c41) (nats N) ∧ Apart v11 v12 ∧ Apart v11 (.slice a41 N.length c41) ∧ Below wA.heap.size wA w4') (fun _ i _ => N.length - (intOf i).toNat)
              case atStart => exact ⟨0, Nat.zero_le _, rfl, hQ3, hG3, hN3', hap', hap3, hb23⟩
              case round =>
                clear hQ3 hG3 hN3' hap' hap3 hb23 hms3
                obtain ⟨m, hm, rfl, hQ4, hG4, hN4, hap4, hap5, hb4⟩ := hrel
                have hatN4 := hN4.at
                have hA : ∀ x, x ∈ addM ms Q (N.take m) → x < n := fun x hx => ((mem_addM ms _ _ x).1 hx).elim (fun h => hms x (hQc.out x h).1) (fun h => hms x h.2)
                have hAn := addM_nodup ms (N.take m) Q hQn
                have hAl := nodup_le hAn hA
                have hms4 : At wr (some ⟨g0, off0, none⟩) (nats ms) := hat.below hat (Nat.le_refl _) (hbr.trans (hb4.mono sr))
                obtain ⟨a4, c4, hv4⟩ := hQ4.shape
                simp only [nats_length] at hv4
                subst hv4
                have s4' := hb4.size
                by_cases hml2 : m < N.length
                · have hSn := Lib.hid (addM_snoc ms N[m] (N.take m) Q)
                  have hTk := Lib.hid (List.take_succ_eq_append_getElem hml2)
                  have h1 := l1HasN_any ms N[m] (some ⟨g0, off0, none⟩) cm wr hms4 (by omega)
                  have h2 := l1HasN_any (addM ms Q (N.take m)) N[m] a4 c4 wr hQ4.at (by omega)
                  obtain ⟨g5, off5, he5, hc5⟩ := nats_at hatN4 m hml2
                  have HE5 := Lib.hid he5
                  subst he5
                  generalize addM ms Q (N.take m) = Q' at *
                  by_cases hi1 : N[m] ∈ ms
                  · rw [decide_eq_true hi1] at h1
                    by_cases hi2 : N[m] ∈ Q'
                    · rw [decide_eq_true hi2] at h2
                      have hq : Hid (addM ms Q (N.take (m + 1)) = Q') := by rw [Hid, hTk.out, hSn.out, if_neg (fun h => h.2 hi2)]
                      have H1 := Lib.hid h1
                      have H2 := Lib.hid h2
                      clear h1 h2 hi1 hi2
                      go_wp2_with fail
                      refine H1.out.mono ?_
                      rintro e w5' ⟨rfl, rfl⟩
                      go_wp2_with fail
                      refine H2.out.mono ?_
                      rintro e w6' ⟨rfl, rfl⟩
                      go_wp2_with fail
                      go_roundw
                      case rel =>
                        first
                          | exact ⟨m + 1, by omega, by go_num, by rw [hq.out]; exact hQ4, hG4, hN4, hap4, hap5, hb4⟩
                          | ((repeat apply Exists.intro); exact ⟨⟨m + 1, by omega, by go_num, by rw [hq.out]; exact hQ4, hG4, hN4, hap4, hap5, hb4⟩, rfl⟩)
                      case measure => simp [intOf]; omega
                    · rw [decide_eq_false hi2] at h2
                      have hq : Hid (addM ms Q (N.take (m + 1)) = Q' ++ [N[m]]) := by rw [Hid, hTk.out, hSn.out, if_pos ⟨hi1, hi2⟩]
                      have H1 := Lib.hid h1
                      have H2 := Lib.hid h2
                      clear h1 h2 hi1 hi2
                      go_wp2_with fail
                      refine H1.out.mono ?_
                      rintro e w5' ⟨rfl, rfl⟩
                      go_wp2_with fail
                      refine H2.out.mono ?_
                      rintro e w6' ⟨rfl, rfl⟩
                      go_wp2_with (at_builtin; refine wpList_app1K rfl _ _ _ rfl wA.heap.size _ _ _ elemInt _ _ _ _ rfl rfl rfl hQ4 rfl (by simp; omega) (by omega) (by simp; omega) ?_; intro v7' w7 hQ7 hb7 hs7 hK7)
                      rw [nats_snoc, ← hq.out] at hQ7
                      obtain ⟨hG7, hap7⟩ := hK7 _ _ _ _ hG4 hap4
                      obtain ⟨hN7, hap8⟩ := hK7 _ _ _ _ hN4 hap5
                      clear hK7
                      go_roundw
                      case rel =>
                        first
                          | exact ⟨m + 1, by omega, by go_num, hQ7, hG7, hN7, hap7, hap8, hb4.trans hb7⟩
                          | ((repeat apply Exists.intro); exact ⟨⟨m + 1, by omega, by go_num, hQ7, hG7, hN7, hap7, hap8, hb4.trans hb7⟩, rfl⟩)
                      case measure => simp [intOf]; omega
                  · rw [decide_eq_false hi1] at h1
                    have hq : Hid (addM ms Q (N.take (m + 1)) = Q') := by rw [Hid, hTk.out, hSn.out, if_neg (fun h => hi1 h.1)]
                    have H1 := Lib.hid h1
                    clear h1 h2 hi1
                    go_wp2_with fail
                    refine H1.out.mono ?_
                    rintro e w5' ⟨rfl, rfl⟩
                    go_wp2_with fail
                    go_roundw
                    case rel =>
                      first
                        | exact ⟨m + 1, by omega, by go_num, by rw [hq.out]; exact hQ4, hG4, hN4, hap4, hap5, hb4⟩
                        | ((repeat apply Exists.intro); exact ⟨⟨m + 1, by omega, by go_num, by rw [hq.out]; exact hQ4, hG4, hN4, hap4, hap5, hb4⟩, rfl⟩)
                    case measure => simp [intOf]; omega
                · obtain rfl : m = N.length := by omega
                  rw [List.take_length] at hQ4 hA hAn hAl hap4 hap5 ⊢
                  obtain ⟨tl, htl⟩ := addM_pre ms N Q
                  have hmem : Hid (∀ x, x ∈ addM ms Q N ↔ x ∈ Q ∨ (x ∈ N ∧ x ∈ ms)) := fun x => mem_addM ms N Q x
                  have hsj := (hQc.out _ (List.getElem_mem hjl)).2
                  have hjl2 : Q.length ≤ (addM ms Q N).length := by rw [htl, List.length_append]; omega
                  have htk2 : Hid ((addM ms Q N).take (j + 1) = Q.take (j + 1)) := by rw [Hid, htl, List.take_append_of_le_length (by omega)]
                  have HTL := Lib.hid htl
                  clear htl
                  go_wp2_with fail
                  go_roundw
                  case rel =>
                    have hrel : ∃ (Q1 : List Nat) (j1 : Nat), Value.int .i64 ((j : Int) + 1) = .int .i64 j1 ∧ j1 ≤ Q1.length ∧ Owns wr wA.heap.size 3 (.slice a4 (addM ms Q N).length c4) (nats Q1) ∧ Owns wr wA.heap.size 3 v12 (nats (sortM n (Q1.take j1))) ∧ Apart (.slice a4 (addM ms Q N).length c4) v12 ∧ Q1.Nodup ∧ Hid (c ∈ Q1) ∧ Hid (∀ x, x ∈ Q1 → x ∈ ms ∧ Conn V (ms.map (spOf W)) (spOf W c) (spOf W x)) ∧ Hid (∀ m, (h : m < Q1.length) → m < j1 → ∀ x, x ∈ ms → nbW V Q1[m] x = true → x ∈ Q1) ∧ Below wA.heap.size wA wr := by
                      refine ⟨addM ms Q N, j + 1, by go_num, by omega, hQ4, by rw [htk2.out]; exact hG4, hap4, hAn, Lib.hid ((hmem.out c).2 (.inl hcQ.out)), Lib.hid (fun x hx => ?_), Lib.hid (fun m h hmj x hx hnbx => ?_), hb4⟩
                      · rcases (hmem.out x).1 hx with h | ⟨h1, h2⟩
                        · exact hQc.out x h
                        · have h3 := (mem_nearM V n Q[j] x).1 (by rw [HNE.out]; exact h1)
                          exact ⟨h2, .step hsj (List.mem_map_of_mem h2) (by rw [← HSP.out]; exact h3.2)⟩
                      · rw [hmem.out x]
                        have hgx : (addM ms Q N)[m] = Q[m]'(by omega) := by
                          have := HTL.out
                          simp only [this]
                          exact List.getElem_append_left (by omega)
                        rw [hgx] at hnbx
                        by_cases hmj2 : m < j
                        · exact .inl (hQcl.out m (by omega) hmj2 x hx hnbx)
                        · obtain rfl : m = j := by omega
                          refine .inr ⟨?_, hx⟩
                          rw [← HNE.out]
                          exact (mem_nearM V n _ x).2 ⟨hms x hx, hnbx⟩
                    first
                      | exact hrel
                      | ((repeat apply Exists.intro); exact ⟨hrel, rfl⟩)
                  case measure => simp [intOf]; omega
            · obtain rfl : j = Q.length := by omega
              have hQg : Hid (∀ x, x ∈ Q ↔ x ∈ grpM V W n (ms.map (spOf W)) (spOf W c)) := fun x => by
                have hcl := conn_closed (V := V) (X := ms.map (spOf W)) (G := Q.map (spOf W)) (c := spOf W c) (List.mem_map_of_mem hcQ.out) (fun p hp q hq hnbp => by
                  obtain ⟨y, hy, rfl⟩ := List.mem_map.1 hp
                  obtain ⟨z, hz, rfl⟩ := List.mem_map.1 hq
                  obtain ⟨i, hi, rfl⟩ := List.getElem_of_mem hy
                  exact List.mem_map_of_mem (hQcl.out i hi hi z hz (by rw [HSP.out]; exact hnbp)))
                rw [mem_grpM]
                constructor
                · intro hx
                  exact ⟨hms x (hQc.out x hx).1, _, (hQc.out x hx).2, ((spOf_lt hW x).2).symm⟩
                · rintro ⟨_, p, hp, e⟩
                  obtain ⟨y, hy, rfl⟩ := List.mem_map.1 (hcl p hp)
                  rw [e, (spOf_lt hW y).2]
                  exact hy
              have hsort : Hid (sortM n Q = grpM V W n (ms.map (spOf W)) (spOf W c)) := rise_ext (sortM_rise n Q) (grpM_rise _ _ _ _ _) (fun x => by rw [mem_sortM (fun y hy => ((mem_grpM _ _ _ _ _ _).1 ((hQg.out y).1 hy)).1) x]; exact hQg.out x)
              rw [List.take_length, hsort.out] at hG
              obtain ⟨ag, cg, hvg⟩ := hG.shape
              simp only [nats_length] at hvg
              subst hvg
              have hRl : (grpM V W n (ms.map (spOf W)) (spOf W c)).length ≤ 64 := by rw [← hsort.out]; exact Nat.le_trans (sortM_le n Q) h64
              have hgo2 : Hid (gom = (acc ++ [grpM V W n (ms.map (spOf W)) (spOf W c)]) ++ grpsSeen V W n (ms.map (spOf W)) (S ++ Q) (ms.drop (k + 1))) := by
                rw [Hid, hgo.out, Ht.out, grpsSeen, if_neg HIN.out, grpsSeen_congr (ms.drop (k + 1)) (S ++ grpM V W n (ms.map (spOf W)) (spOf W c)) (S ++ Q) (fun x => by rw [List.mem_append, List.mem_append, hQg.out x]), List.append_assoc]
                rfl
              generalize grpM V W n (ms.map (spOf W)) (spOf W c) = R at *
              have hF6 := (hF.fresh22 hb2 hQ hG hap sr).perm (perm_six _ _ _ _ _)
              have hbr6 := hbr.trans (hb2.mono sr)
              have s6 := hbr6.size
              have hatQ := hQ.at
              clear hcQ hQc hQcl hF hQ hG hap
              go_wp2_with (first
                | (at_builtin; refine wpList_appAF rfl _ _ _ rfl w4.heap.size _ _ _ elemInt _ _ _ rfl hF6 _ _ _ _ rfl (nats_length _) hatQ (nats_one _) (by simp; omega) (by simp; omega) (by omega) ?_; intro v7b w7 hF7 hb7; have s7 := hb7.size; have hF8 := hF7.perm (perm_sev _ _ _ _ _))
                | (at_builtin; refine wpList_app1F rfl _ _ _ rfl w4.heap.size _ _ _ elemRow _ _ _ _ _ rfl rfl rfl hF8 rfl (by omega) (by omega) (by omega) ?_; intro v10 w10 hF10 hb10 hs10))
              have hF11 := hF10.perm (perm_eig _ _ _ _ _)
              have e1 : rowsF us acc ++ [(.slice ag R.length cg, 3, nats R)] = rowsF (us ++ [.slice ag R.length cg]) (acc ++ [R]) := by
                rw [rowsF_snoc _ _ us _ (by rw [HUS.out])]
              rw [e1, nats_append] at hF11
              have hF12 := hF11.tail
              clear e1 hF10 hF8 hF11 hF7 hF6
              go_roundw
              case rel =>
                first
                  | exact ⟨k + 1, us ++ [.slice ag R.length cg], acc ++ [R], S ++ Q, by omega, by go_num, by simp [HUS.out], by simp; omega, by simp; omega, hgo2, hF12, (hbr6.trans hb7).trans hb10⟩
                  | ((repeat apply Exists.intro); exact ⟨⟨k + 1, us ++ [.slice ag R.length cg], acc ++ [R], S ++ Q, by omega, by go_num, by simp [HUS.out], by simp; omega, by simp; omega, hgo2, hF12, (hbr6.trans hb7).trans hb10⟩, rfl⟩)
              case measure => simp [intOf]; omega
      · obtain rfl : k = ms.length := by omega
        have hge : Hid (gom = acc) := by rw [Hid, hgo.out, List.drop_length, grpsSeen, List.append_nil]
        obtain ⟨a1, cap1, hv⟩ := hF.tail.head.shape
        rw [HUS.out, ← hge.out] at hv
        go_wp2_with fail
        go_ret2
        refine ⟨a1, cap1, us, by rw [← hv]; rfl, by rw [hge.out]; exact HUS.out, ?_, hb04.trans (hbr.mono (by omega))⟩
        rw [← hv, hge.out]
        exact hF.tail.mono (by omega)
end Go.Proofs.YtbnoallcdjpihaaDoor
