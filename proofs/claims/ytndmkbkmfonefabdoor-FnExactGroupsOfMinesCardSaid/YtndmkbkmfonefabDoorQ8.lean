/- Groups of mines: all groups, by the model. -/
import Derived.Test.YtndmkbkmfonefabDoorQ7
import Derived.Test.YtndmkbkmfonefabDoorGY8
import Derived.Test.YtndmkbkmfonefabDoorGYB
import Derived.Outline
namespace Go.Proofs.YtndmkbkmfonefabDoor
open Go.RowKit

/-- The neighbours that are in a list and not in the queue come behind it. -/
def addM (ms : List Nat) : List Nat → List Nat → List Nat
  | q, [] => q
  | q, x :: r => if x ∈ ms ∧ x ∉ q then addM ms (q ++ [x]) r else addM ms q r
theorem mem_addM (ms : List Nat) : ∀ (r q : List Nat) (x : Nat), x ∈ addM ms q r ↔ x ∈ q ∨ (x ∈ r ∧ x ∈ ms)
  | [], q, x => by simp [addM]
  | y :: r, q, x => by
    rw [addM]
    split
    · rename_i h
      rw [mem_addM ms r]
      rw [List.mem_append, List.mem_singleton, List.mem_cons]
      constructor
      · rintro ((h1 | rfl) | h1)
        · exact .inl h1
        · exact .inr ⟨.inl rfl, h.1⟩
        · exact .inr ⟨.inr h1.1, h1.2⟩
      · rintro (h1 | ⟨rfl | h1, h2⟩)
        · exact .inl (.inl h1)
        · exact .inl (.inr rfl)
        · exact .inr ⟨h1, h2⟩
    · rename_i h
      rw [mem_addM ms r]
      simp only [List.mem_cons]
      constructor
      · rintro (h1 | h1)
        · exact .inl h1
        · exact .inr ⟨.inr h1.1, h1.2⟩
      · rintro (h1 | ⟨rfl | h1, h2⟩)
        · exact .inl h1
        · exact .inl (Classical.byContradiction fun h3 => h ⟨h2, h3⟩)
        · exact .inr ⟨h1, h2⟩
theorem addM_snoc (ms : List Nat) (x : Nat) : ∀ (r q : List Nat), addM ms q (r ++ [x]) = if x ∈ ms ∧ x ∉ addM ms q r then addM ms q r ++ [x] else addM ms q r
  | [], q => by by_cases h : x ∈ ms ∧ x ∉ q <;> simp [addM, h]
  | y :: r, q => by
    rw [List.cons_append, addM, addM]
    split
    · exact addM_snoc ms x r _
    · exact addM_snoc ms x r _
theorem addM_pre (ms : List Nat) : ∀ (r q : List Nat), ∃ t, addM ms q r = q ++ t
  | [], q => ⟨[], by simp [addM]⟩
  | y :: r, q => by
    rw [addM]
    split
    · obtain ⟨t, ht⟩ := addM_pre ms r (q ++ [y])
      exact ⟨y :: t, by rw [ht]; simp⟩
    · exact addM_pre ms r q
theorem addM_nodup (ms : List Nat) : ∀ (r q : List Nat), q.Nodup → (addM ms q r).Nodup
  | [], q, h => by simpa [addM] using h
  | y :: r, q, h => by
    rw [addM]
    split
    · rename_i h1
      refine addM_nodup ms r _ ?_
      rw [List.nodup_append]
      exact ⟨h, by simp, fun a ha b hb e => by simp at hb; subst hb; subst e; exact h1.2 ha⟩
    · exact addM_nodup ms r q h
theorem grpsSeen_congr {V : Geo} {W n : Nat} {X0 : List (Nat × Nat)} : ∀ (r S S' : List Nat), (∀ x, x ∈ S ↔ x ∈ S') → grpsSeen V W n X0 S r = grpsSeen V W n X0 S' r
  | [], _, _, _ => rfl
  | k :: r, S, S', h => by
    rw [grpsSeen, grpsSeen]
    by_cases hk : k ∈ S
    · rw [if_pos hk, if_pos ((h k).1 hk)]
      exact grpsSeen_congr r S S' h
    · rw [if_neg hk, if_neg (fun q => hk ((h k).2 q))]
      congr 1
      exact grpsSeen_congr r _ _ (fun x => by rw [List.mem_append, List.mem_append, h x])

theorem perm_out {α : Type} (o g s q : α) (r : List α) : (o :: g :: s :: q :: r).Perm (q :: s :: o :: (r ++ [g])) := by
  have h1 : (o :: g :: s :: q :: r).Perm (s :: q :: o :: g :: r) := (List.perm_append_comm (l₁ := [o, g]) (l₂ := [s, q])).append_right r
  have h2 : (s :: q :: o :: g :: r).Perm (q :: s :: o :: g :: r) := List.Perm.swap q s _
  exact (h1.trans h2).trans (((List.perm_append_singleton g r).symm.cons o).cons s |>.cons q)
theorem Fam.fresh1 {w : World} {B e : Nat} {v : Value} {xs : List Value} (_h : Fam w B []) (ho : Owns w B e v xs) : Fam w B [(v, e, xs)] :=
  ⟨fun x hx => by rw [List.mem_singleton] at hx; subst hx; exact ho, List.pairwise_singleton _ _⟩
theorem nbW_sp (W c x : Nat) : nbW W c x = nbS W (spOf W c) (spOf W x) := rfl
theorem nbW_spA (W H c x : Nat) : nbW (.around W H) c x = nbS (.around W H) (spOf W c) (spOf W x) := rfl
theorem nearGo_filt (W : Geo) (c : Nat) : ∀ (m k : Nat), nearGo W c k m = (List.range' k m).filter (nbW W c)
  | 0, _ => rfl
  | m + 1, k => by
    rw [nearGo, List.range'_succ, List.filter_cons, nearGo_filt W c m (k + 1)]
theorem mem_nearM (W : Geo) (n c x : Nat) : x ∈ nearM W n c ↔ x < n ∧ nbW W c x = true := by
  rw [nearM, nearGo_filt, ← List.range_eq_range', List.mem_filter, List.mem_range]

set_option maxRecDepth 100000 in
set_option maxHeartbeats 3200000 in
theorem boGroups_any (W H n : Nat) (ms : List Nat) (a0 : Option Addr) (cap0 : Nat) (w : World) (hW : 1 ≤ W ∧ W ≤ 8) (hH : H ≤ 8) (hn : n = W * H) (hms : ∀ k, k ∈ ms → k < n) (hnd : ms.Nodup) (hat : At w a0 (nats ms)) :
    Calls Tryd.prog 61 #[.int .i64 W, .int .i64 H, .slice a0 ms.length cap0] w fun e w' => ∃ v us, e = .returned v ∧ us.length = (grpsSeen W W n (ms.map (spOf W)) [] ms).length ∧
      Fam w' w.heap.size ((v, 29, us) :: rowsF us (grpsSeen W W n (ms.map (spOf W)) [] ms)) ∧ Below w.heap.size w w' := by
  have hml : ms.length ≤ 64 := by
    have := nodup_le hnd hms
    have h2 : W * H ≤ 8 * 8 := Nat.mul_le_mul hW.2 hH
    omega
  have h64 : n ≤ 64 := by rw [hn]; exact Nat.mul_le_mul hW.2 hH
  have HN := Lib.hid hn
  clear hn
  have HGM : Hid (grpsSeen W W n (ms.map (spOf W)) [] ms = [] ++ grpsSeen W W n (ms.map (spOf W)) [] (ms.drop 0)) := rfl
  generalize hgm : grpsSeen W W n (ms.map (spOf W)) [] ms = gom at *
  have HGE := Lib.hid hgm
  clear hgm
  go_enter Tryd.func61, Tryd.ntmps61
  go_wp2_with fail
  go_loopw [7, 8, 20] (fun v7 v8 i wr => ∃ (k : Nat) (us : List Value) (acc : List (List Nat)) (S : List Nat), k ≤ ms.length ∧ i = .int .i64 k ∧ us.length = acc.length ∧ acc.length ≤ k ∧ S.length ≤ 64 * k ∧ Hid (gom = acc ++ grpsSeen W W n (ms.map (spOf W)) S (ms.drop k)) ∧ Fam wr w.heap.size ((v8, 3, nats S) :: (v7, 29, us) :: rowsF us acc) ∧ Below w.heap.size w wr) (fun _ _ i _ => ms.length - (intOf i).toNat)
  case atStart => exact ⟨0, [], [], [], Nat.zero_le _, rfl, rfl, Nat.le_refl _, by simp, HGM, (Fam.empty _ _).nil.nil, Below.refl _ _⟩
  case round =>
    obtain ⟨k, us, acc, S, hk, rfl, hus, hak, hSl, hgo, hF, hbr⟩ := hrel
    have HUS := Lib.hid hus
    have hus2 : us.length ≤ 64 := by omega
    have sr := hbr.size
    clear hus
    obtain ⟨a8, c8, hv8⟩ := hF.head.shape
    simp only [nats_length] at hv8
    subst hv8
    by_cases hlt : k < ms.length
    · have hcm := List.getElem_mem hlt
      have hcn := hms _ hcm
      have Ht := Lib.hid (List.drop_eq_getElem_cons hlt)
      have hatr : At wr a0 (nats ms) := hat.below hat (Nat.le_refl _) hbr
      have hHas := l1HasN_any S ms[k] a8 c8 wr hF.head.at (by omega)
      obtain ⟨g0, off0, he0, hc0⟩ := nats_at hatr k hlt
      by_cases hin : ms[k] ∈ S
      · rw [decide_eq_true hin] at hHas
        have hgo2 : Hid (gom = acc ++ grpsSeen W W n (ms.map (spOf W)) S (ms.drop (k + 1))) := by rw [Hid, hgo.out, Ht.out, grpsSeen, if_pos hin]
        subst he0
        have HH := Lib.hid hHas
        clear hin hHas
        go_wp2_with fail
        refine HH.out.mono ?_
        rintro e w5 ⟨rfl, rfl⟩
        go_wp2_with fail
        go_roundw
        case rel =>
          first
            | exact ⟨k + 1, us, acc, S, by omega, by go_num, HUS.out, by omega, by omega, hgo2, hF, hbr⟩
            | ((repeat apply Exists.intro); exact ⟨⟨k + 1, us, acc, S, by omega, by go_num, HUS.out, by omega, by omega, hgo2, hF, hbr⟩, rfl⟩)
        case measure => simp [intOf]; omega
      · rw [decide_eq_false hin] at hHas
        have HIN := Lib.hid hin
        have HH := Lib.hid hHas
        have HE0 := Lib.hid he0
        subst he0
        clear hin hHas
        go_wp2_with fail
        refine HH.out.mono ?_
        rintro e w5 ⟨rfl, rfl⟩
        go_wp2_with fail
        have hQ1 : Owns (wr.alloc (.cells #[.int .i64 (ms[k] : Int)] 3)) wr.heap.size 3 (.slice (some ⟨wr.heap.size, 0, none⟩) 1 1) (nats [ms[k]]) := Owns.one wr wr.heap.size 3 (.int .i64 (ms[k] : Int)) (Nat.le_refl _)
        have hba : Below wr.heap.size wr (wr.alloc (.cells #[.int .i64 (ms[k] : Int)] 3)) := (Below.refl _ _).alloc (Nat.le_refl _) _
        generalize wr.alloc (.cells #[.int .i64 (ms[k] : Int)] 3) = wq at *
        generalize wr = wA at *
        generalize hc : ms[k] = c at *
        have HC := Lib.hid hc
        clear hc hc0
        go_loopw [11, 12] (fun v11 i w2 => ∃ (Q : List Nat) (j : Nat), i = .int .i64 j ∧ j ≤ Q.length ∧ Owns w2 wA.heap.size 3 v11 (nats Q) ∧ Q.Nodup ∧ Hid (c ∈ Q) ∧ Hid (∀ x, x ∈ Q → x ∈ ms ∧ Conn W (ms.map (spOf W)) (spOf W c) (spOf W x)) ∧ Hid (∀ m, (h : m < Q.length) → m < j → ∀ x, x ∈ ms → nbW W Q[m] x = true → x ∈ Q) ∧ Below wA.heap.size wA w2) (fun _ i _ => 64 - (intOf i).toNat)
        case atStart => exact ⟨[c], 0, rfl, by simp, hQ1, by simp, Lib.hid (by simp), Lib.hid (fun x hx => by rw [List.mem_singleton] at hx; rw [hx]; exact ⟨hcm, .base⟩), Lib.hid (fun m _ hm => absurd hm (by omega)), hba⟩
        case round =>
          obtain ⟨Q, j, rfl, hj, hQ, hQn, hcQ, hQc, hQcl, hb2⟩ := hrel
          have hQl := nodup_le hQn (fun x hx => hms x (hQc.out x hx).1)
          obtain ⟨a11, c11, hv11⟩ := hQ.shape
          simp only [nats_length] at hv11
          subst hv11
          have s2 := hb2.size
          by_cases hjl : j < Q.length
          · have hqn := hms _ (hQc.out _ (List.getElem_mem hjl)).1
            obtain ⟨g1, off1, he1, hc1⟩ := nats_at hQ.at j hjl
            have hnr := boNear_any W H Q[j] wr hW hH (by omega)
            rw [near_eq W H Q[j] hW.2 hH (by rw [← HN.out]; exact hqn)] at hnr
            subst he1
            go_wp2_with fail
            refine hnr.mono ?_
            rintro e w3 ⟨a41, c41, rfl, hN3, hb3⟩
            rw [← HN.out] at hN3 ⊢
            have hN3' : Owns w3 wr.heap.size 3 (.slice a41 (nearM W n Q[j]).length c41) (nats (nearM W n Q[j])) := by simpa [nats] using hN3
            have hnl : (nearM W n Q[j]).length ≤ 64 := Nat.le_trans (nearM_le _ _ _) h64
            have hmx := fun x (hx : x ∈ nearM W n Q[j]) => nearM_lt W n Q[j] x hx
            have hnb : Hid (∀ x, x ∈ nearM W n Q[j] ↔ x < n ∧ nbW W Q[j] x = true) := fun x => mem_nearM W n Q[j] x
            have hQ3 := hQ.later hb3
            have hQlt := hQ.lt
            have s3 := hb3.size
            have hms3 : At w3 (some ⟨g0, off0, none⟩) (nats ms) := hat.below hat (Nat.le_refl _) ((hbr.trans (hb2.mono sr)).trans (hb3.mono (by omega)))
            have hF3 : Fam w3 wA.heap.size ((.slice (some ⟨g1, off1, none⟩) Q.length c11, 3, nats Q) :: (.slice a41 (nearM W n Q[j]).length c41, 3, nats (nearM W n Q[j])) :: []) := (((Fam.empty wr wA.heap.size).fresh1 hQ).fresh hb3 hN3' s2).swap
            simp only [List.length_map]
            clear hnr hN3 hN3' hc1
            generalize hNe : nearM W n Q[j] = N at *
            have HNE := Lib.hid hNe
            clear hNe
            generalize wr = wB at *
            go_wp2_with fail
            go_loopw [11, 43] (fun v11 i w4 => ∃ m : Nat, m ≤ N.length ∧ i = .int .i64 m ∧ Fam w4 wA.heap.size ((v11, 3, nats (addM ms Q (N.take m))) :: (.slice a41 N.length c41, 3, nats N) :: []) ∧ Below wA.heap.size w3 w4) (fun _ i _ => N.length - (intOf i).toNat)
            case atStart => exact ⟨0, Nat.zero_le _, rfl, hF3, Below.refl _ _⟩
            case round =>
              obtain ⟨m, hm, rfl, hF4, hb4⟩ := hrel
              have hQ4 := hF4.head
              have hatN4 := hF4.tail.head.at
              have hA : ∀ x, x ∈ addM ms Q (N.take m) → x < n := fun x hx => ((mem_addM ms _ _ x).1 hx).elim (fun h => hms x (hQc.out x h).1) (fun h => hms x h.2)
              have hAn := addM_nodup ms (N.take m) Q hQn
              have hAl := nodup_le hAn hA
              have hms4 : At wr (some ⟨g0, off0, none⟩) (nats ms) := hat.below hat (Nat.le_refl _) (((hbr.trans (hb2.mono sr)).trans (hb3.mono (by omega))).trans (hb4.mono sr))
              obtain ⟨a4, c4, hv4⟩ := hQ4.shape
              simp only [nats_length] at hv4
              subst hv4
              have s4 := hb4.size
              by_cases hml2 : m < N.length
              · have hSn := Lib.hid (addM_snoc ms N[m] (N.take m) Q)
                have hTk := Lib.hid (List.take_succ_eq_append_getElem hml2)
                have h1 := l1HasN_any ms N[m] (some ⟨g0, off0, none⟩) cap0 wr hms4 (by omega)
                have h2 := l1HasN_any (addM ms Q (N.take m)) N[m] a4 c4 wr hQ4.at (by omega)
                obtain ⟨g5, off5, he5, hc5⟩ := nats_at hatN4 m hml2
                have HE5 := Lib.hid he5
                subst he5
                generalize addM ms Q (N.take m) = Q' at *
                by_cases hi1 : N[m] ∈ ms
                · rw [decide_eq_true hi1] at h1
                  by_cases hi2 : N[m] ∈ Q'
                  · rw [decide_eq_true hi2] at h2
                    have hq : Hid (addM ms Q (N.take (m + 1)) = Q') := by rw [Hid, hTk.out, hSn.out, if_neg (fun h => h.2 hi2)]
                    have H1 := Lib.hid h1
                    have H2 := Lib.hid h2
                    clear h1 h2 hi1 hi2
                    go_wp2_with fail
                    refine H1.out.mono ?_
                    rintro e w5 ⟨rfl, rfl⟩
                    go_wp2_with fail
                    refine H2.out.mono ?_
                    rintro e w6 ⟨rfl, rfl⟩
                    go_wp2_with fail
                    go_roundw
                    case rel =>
                      first
                        | exact ⟨m + 1, by omega, by go_num, by rw [hq.out]; exact hF4, hb4⟩
                        | ((repeat apply Exists.intro); exact ⟨⟨m + 1, by omega, by go_num, by rw [hq.out]; exact hF4, hb4⟩, rfl⟩)
                    case measure => simp [intOf]; omega
                  · rw [decide_eq_false hi2] at h2
                    have hq : Hid (addM ms Q (N.take (m + 1)) = Q' ++ [N[m]]) := by rw [Hid, hTk.out, hSn.out, if_pos ⟨hi1, hi2⟩]
                    have H1 := Lib.hid h1
                    have H2 := Lib.hid h2
                    clear h1 h2 hi1 hi2
                    go_wp2_with fail
                    refine H1.out.mono ?_
                    rintro e w5 ⟨rfl, rfl⟩
                    go_wp2_with fail
                    refine H2.out.mono ?_
                    rintro e w6 ⟨rfl, rfl⟩
                    go_wp2_with (at_builtin; refine wpList_app1F rfl _ _ _ rfl wA.heap.size _ _ _ elemInt _ _ _ _ _ rfl rfl rfl hF4 rfl (by simp; omega) (by omega) (by simp; omega) ?_; intro v7 w7 hF7 hb7 hs7)
                    rw [nats_snoc, ← hq.out] at hF7
                    go_roundw
                    case rel =>
                      first
                        | exact ⟨m + 1, by omega, by go_num, hF7, hb4.trans hb7⟩
                        | ((repeat apply Exists.intro); exact ⟨⟨m + 1, by omega, by go_num, hF7, hb4.trans hb7⟩, rfl⟩)
                    case measure => simp [intOf]; omega
                · rw [decide_eq_false hi1] at h1
                  have hq : Hid (addM ms Q (N.take (m + 1)) = Q') := by rw [Hid, hTk.out, hSn.out, if_neg (fun h => hi1 h.1)]
                  have H1 := Lib.hid h1
                  clear h1 h2 hi1
                  go_wp2_with fail
                  refine H1.out.mono ?_
                  rintro e w5 ⟨rfl, rfl⟩
                  go_wp2_with fail
                  go_roundw
                  case rel =>
                    first
                      | exact ⟨m + 1, by omega, by go_num, by rw [hq.out]; exact hF4, hb4⟩
                      | ((repeat apply Exists.intro); exact ⟨⟨m + 1, by omega, by go_num, by rw [hq.out]; exact hF4, hb4⟩, rfl⟩)
                  case measure => simp [intOf]; omega
              · obtain rfl : m = N.length := by omega
                rw [List.take_length] at hF4 hQ4 hA hAn hAl ⊢
                obtain ⟨tl, htl⟩ := addM_pre ms N Q
                have hmem : Hid (∀ x, x ∈ addM ms Q N ↔ x ∈ Q ∨ (x ∈ N ∧ x ∈ ms)) := fun x => mem_addM ms N Q x
                have hsj := (hQc.out _ (List.getElem_mem hjl)).2
                have hjl2 : Q.length ≤ (addM ms Q N).length := by rw [htl, List.length_append]; omega
                have HTL := Lib.hid htl
                clear htl
                go_wp2_with fail
                go_roundw
                case rel =>
                  have hrel : ∃ (Q1 : List Nat) (j1 : Nat), Value.int .i64 ((j : Int) + 1) = .int .i64 j1 ∧ j1 ≤ Q1.length ∧ Owns wr wA.heap.size 3 (.slice a4 (addM ms Q N).length c4) (nats Q1) ∧ Q1.Nodup ∧ Hid (c ∈ Q1) ∧ Hid (∀ x, x ∈ Q1 → x ∈ ms ∧ Conn W (ms.map (spOf W)) (spOf W c) (spOf W x)) ∧ Hid (∀ m, (h : m < Q1.length) → m < j1 → ∀ x, x ∈ ms → nbW W Q1[m] x = true → x ∈ Q1) ∧ Below wA.heap.size wA wr := by
                    refine ⟨addM ms Q N, j + 1, by go_num, by omega, hQ4, hAn, Lib.hid ((hmem.out c).2 (.inl hcQ.out)), Lib.hid (fun x hx => ?_), Lib.hid (fun m h hmj x hx hnbx => ?_), (hb2.trans (hb3.mono s2)).trans hb4⟩
                    · rcases (hmem.out x).1 hx with h | ⟨h1, h2⟩
                      · exact hQc.out x h
                      · have h3 := (mem_nearM W n Q[j] x).1 (by rw [HNE.out]; exact h1)
                        exact ⟨h2, .step hsj (List.mem_map_of_mem h2) (by rw [← nbW_sp]; exact h3.2)⟩
                    · rw [hmem.out x]
                      have hgx : (addM ms Q N)[m] = Q[m]'(by omega) := by
                        have := HTL.out
                        simp only [this]
                        exact List.getElem_append_left (by omega)
                      rw [hgx] at hnbx
                      by_cases hmj2 : m < j
                      · exact .inl (hQcl.out m (by omega) hmj2 x hx hnbx)
                      · obtain rfl : m = j := by omega
                        refine .inr ⟨?_, hx⟩
                        rw [← HNE.out]
                        exact (mem_nearM W n _ x).2 ⟨hms x hx, hnbx⟩
                  first
                    | exact hrel
                    | ((repeat apply Exists.intro); exact ⟨hrel, rfl⟩)
                case measure => simp [intOf]; omega
          · obtain rfl : j = Q.length := by omega
            have hQg : Hid (∀ x, x ∈ Q ↔ x ∈ grpM W W n (ms.map (spOf W)) (spOf W c)) := fun x => by
              have hcl := conn_closed (V := W) (X := ms.map (spOf W)) (G := Q.map (spOf W)) (c := spOf W c) (List.mem_map_of_mem hcQ.out) (fun p hp q hq hnbp => by
                obtain ⟨y, hy, rfl⟩ := List.mem_map.1 hp
                obtain ⟨z, hz, rfl⟩ := List.mem_map.1 hq
                obtain ⟨i, hi, rfl⟩ := List.getElem_of_mem hy
                exact List.mem_map_of_mem (hQcl.out i hi hi z hz hnbp))
              rw [mem_grpM]
              constructor
              · intro hx
                exact ⟨hms x (hQc.out x hx).1, _, (hQc.out x hx).2, ((spOf_lt hW.1 x).2).symm⟩
              · rintro ⟨_, p, hp, e⟩
                obtain ⟨y, hy, rfl⟩ := List.mem_map.1 (hcl p hp)
                rw [e, (spOf_lt hW.1 y).2]
                exact hy
            have hF6 := (hF.fresh hb2 hQ sr).swap
            have hbr6 := hbr.trans (hb2.mono sr)
            have hatQ := hQ.at
            have HQN := Lib.hid hQn
            clear hcQ hQc hQcl hF
            go_wp2_with (at_builtin; refine wpList_appAF rfl _ _ _ rfl w.heap.size _ _ _ elemInt _ _ _ rfl hF6 _ _ _ _ rfl (nats_length _) hatQ (nats_one _) (by simp; omega) (by simp; omega) (by omega) ?_; intro v7b w7 hF7 hb7)
            have s7 := hb7.size
            have hsort : Hid (sortM n Q = grpM W W n (ms.map (spOf W)) (spOf W c)) := rise_ext (sortM_rise n Q) (grpM_rise _ _ _ _ _) (fun x => by rw [mem_sortM (fun y hy => ((mem_grpM _ _ _ _ _ _).1 ((hQg.out y).1 hy)).1) x]; exact hQg.out x)
            have hQlt : ∀ y ∈ Q, y < n := fun y hy => ((mem_grpM _ _ _ _ _ _).1 ((hQg.out y).1 hy)).1
            have hQ7 := hF7.tail.head
            generalize wr = wC at *
            have hw7 : w.heap.size ≤ w7.heap.size := by have := hbr6.size; omega
            go_loopw [15, 66] (fun v15 i w5 => ∃ m : Nat, m ≤ Q.length ∧ i = .int .i64 m ∧ Owns w5 w7.heap.size 3 v15 (nats (sortM n (Q.take m))) ∧ Below w7.heap.size w7 w5) (fun _ i _ => Q.length - (intOf i).toNat)
            case atStart => exact ⟨0, Nat.zero_le _, rfl, by rw [List.take_zero, show sortM n [] = [] by simp [sortM]]; exact Owns.nil w7 w7.heap.size 3, Below.refl _ _⟩
            case round =>
              obtain ⟨m, hm, rfl, hg, hb8⟩ := hrel
              have s8 := hb8.size
              have hgl := sortM_le n (Q.take m)
              by_cases hml3 : m < Q.length
              · have hput := l1Put_any (sortM n (Q.take m)) Q[m] _ w7.heap.size wr hg (by omega) s8
                rw [putM_sort (fun y hy => hQlt y (List.mem_of_mem_take hy)) (hQlt _ (List.getElem_mem hml3)), ← List.take_succ_eq_append_getElem hml3] at hput
                have hQ8 := hQ7.below (fun j hj => (hQ7.lt j hj).2) hb8
                obtain ⟨g6, off6, he6, hc6⟩ := nats_at hQ8.at m hml3
                have HE6 := Lib.hid he6
                subst he6
                have HP := Lib.hid hput
                clear hput
                go_wp2_with fail
                refine HP.out.mono ?_
                rintro e w9 ⟨v9, rfl, hg9, hb9, _⟩
                go_wp2_with fail
                go_roundw
                case rel =>
                  first
                    | exact ⟨m + 1, by omega, by go_num, hg9, hb8.trans (hb9.mono s8)⟩
                    | ((repeat apply Exists.intro); exact ⟨⟨m + 1, by omega, by go_num, hg9, hb8.trans (hb9.mono s8)⟩, rfl⟩)
                case measure => simp [intOf]; omega
              · obtain rfl : m = Q.length := by omega
                rw [List.take_length, hsort.out] at hg
                obtain ⟨ag, cg, hvg⟩ := hg.shape
                simp only [nats_length] at hvg
                subst hvg
                have hRl : (grpM W W n (ms.map (spOf W)) (spOf W c)).length ≤ 64 := by rw [← hsort.out]; exact Nat.le_trans (sortM_le n Q) h64
                have hgo2 : Hid (gom = (acc ++ [grpM W W n (ms.map (spOf W)) (spOf W c)]) ++ grpsSeen W W n (ms.map (spOf W)) (S ++ Q) (ms.drop (k + 1))) := by
                  rw [Hid, hgo.out, Ht.out, grpsSeen, if_neg HIN.out, grpsSeen_congr (ms.drop (k + 1)) (S ++ grpM W W n (ms.map (spOf W)) (spOf W c)) (S ++ Q) (fun x => by rw [List.mem_append, List.mem_append, hQg.out x]), List.append_assoc]
                  rfl
                generalize grpM W W n (ms.map (spOf W)) (spOf W c) = R at *
                have hF8 := (hF7.fresh hb8 hg hw7).swap4
                have hwr7 : w.heap.size ≤ wr.heap.size := by omega
                have hbr8 := (hbr6.trans hb7).trans (hb8.mono hw7)
                clear hF7 hQ7 hg hF6 hatQ hQ hQlt hsort hQg hgo
                go_wp2_with (at_builtin; refine wpList_app1F rfl _ _ _ rfl w.heap.size _ _ _ elemRow _ _ _ _ _ rfl rfl rfl hF8 rfl (by omega) (by omega) (by omega) ?_; intro v10 w10 hF10 hb10 hs10)
                have hF11 := (hF10.perm (perm_out _ _ _ _ _)).tail
                have e1 : rowsF us acc ++ [(.slice ag R.length cg, 3, nats R)] = rowsF (us ++ [.slice ag R.length cg]) (acc ++ [R]) := by
                  rw [rowsF_snoc _ _ us _ (by rw [HUS.out])]
                rw [e1, nats_append] at hF11
                clear e1 hF10 hF8
                go_roundw
                case rel =>
                  first
                    | exact ⟨k + 1, us ++ [.slice ag R.length cg], acc ++ [R], S ++ Q, by omega, by go_num, by simp [HUS.out], by simp; omega, by simp; omega, hgo2, hF11, hbr8.trans hb10⟩
                    | ((repeat apply Exists.intro); exact ⟨⟨k + 1, us ++ [.slice ag R.length cg], acc ++ [R], S ++ Q, by omega, by go_num, by simp [HUS.out], by simp; omega, by simp; omega, hgo2, hF11, hbr8.trans hb10⟩, rfl⟩)
                case measure => simp [intOf]; omega
    · obtain rfl : k = ms.length := by omega
      have hge : Hid (gom = acc) := by rw [Hid, hgo.out, List.drop_length, grpsSeen, List.append_nil]
      go_wp2_with fail
      go_ret
      exact ⟨_, us, rfl, by rw [hge.out]; exact HUS.out, by rw [hge.out]; exact hF.tail, hbr⟩
end Go.Proofs.YtndmkbkmfonefabDoor
