/- Cells open behind clicks: the model, walked. -/
import Derived.Test.YtndmkbkmfonefacDoorV2
import Derived.Outline
namespace Go.Proofs.YtndmkbkmfonefacDoor
open Go.RowKit

set_option maxRecDepth 100000 in
set_option maxHeartbeats 3200000 in
theorem opAfter_any (l : List UInt8) (W H : Nat) (cells : List UInt8) (cs : List Nat) (a : Option Addr) (cap : Nat) (w : World) (hl : l.length ≤ 1048576) (hB : Brd l W H cells) (hat : At w a (nats cs)) (hx : cs.length ≤ 64) (hc : ∀ c ∈ cs, c < cells.length) (hs : ∀ c ∈ cs, cells.getD c 0 = 46) :
    Calls Tryd.prog 63 #[.string ⟨l.toArray⟩, .slice a cs.length cap] w fun e w' => ∃ a1 c1 a2 c2, e = .returned (.tuple #[.slice a1 (aftM cells W cs).length c1, .slice a2 (needM cells W cs).length c2]) ∧
      Owns w' w.heap.size 3 (.slice a1 (aftM cells W cs).length c1) (nats (aftM cells W cs)) ∧ Owns w' w.heap.size 3 (.slice a2 (needM cells W cs).length c2) (nats (needM cells W cs)) ∧ Below w.heap.size w w' := by
  have hn64 := hB.n64
  have hzs := fun w => opZeros_any l W H cells w hl hB
  have hoc := fun c w h => opClick_any l W H cells c w hl hB h
  have HZS := Lib.hid hzs
  have HOC := Lib.hid hoc
  have HC := Lib.hid hc
  have HS := Lib.hid hs
  have HAM : Hid (aftM cells W cs = sortM cells.length (aftL cells W [] cs)) := rfl
  have HNM : Hid (needM cells W cs = needGo cells W [] 0 cs) := rfl
  clear hc hs hzs hoc hB
  go_enter Tryd.func63, Tryd.ntmps63
  go_wp2_with fail
  go_loopw [6, 7, 15] (fun v6 v7 i wr => ∃ (k : Nat) (L nd : List Nat), k ≤ cs.length ∧ i = .int .i64 k ∧ Owns wr w.heap.size 3 v6 (nats (sortM cells.length L)) ∧ Owns wr w.heap.size 3 v7 (nats nd) ∧ Apart v7 v6 ∧ Below w.heap.size w wr ∧ nd.length ≤ k ∧ Hid (∀ x ∈ L, x < cells.length) ∧ Hid (aftL cells W [] cs = aftL cells W L (cs.drop k)) ∧ Hid (needGo cells W [] 0 cs = nd ++ needGo cells W L k (cs.drop k))) (fun _ _ i _ => cs.length - (intOf i).toNat)
  case atStart =>
    exact ⟨0, [], [], Nat.zero_le _, rfl, by rw [show sortM cells.length [] = [] by simp [sortM]]; exact Owns.nil _ _ _, Owns.nil _ _ _, by intro k hk; simp [Value.ownBlock] at hk, Below.refl _ _, by simp, by simp [Hid], by simp [Hid], by simp [Hid]⟩
  case round =>
    obtain ⟨k, L, nd, hk, rfl, hown6, hown7, hap, hbr, hnd, hL, hA, hN⟩ := hrel
    by_cases hlt : k < cs.length
    · have Ht := Lib.hid (List.drop_eq_getElem_cons hlt)
      have hck := HC.out _ (List.getElem_mem hlt)
      have hsk := HS.out _ (List.getElem_mem hlt)
      obtain ⟨b, off, he, hcx⟩ := nats_at (hat.below hat (Nat.le_refl _) hbr) k hlt
      subst he
      obtain ⟨c, hcc⟩ : ∃ c, cs[k] = c := ⟨_, rfl⟩
      rw [hcc] at hck hsk hcx
      have HCC := Lib.hid hcc
      have HSK := Lib.hid hsk
      clear hcc hsk
      obtain ⟨a6, c6, hv6⟩ := hown6.shape
      simp only [nats_length] at hv6
      subst hv6
      have hsl := sortM_le cells.length L
      have hHas := l1HasN_any (sortM cells.length L) c a6 c6 wr hown6.at (by omega)
      have s0 := hbr.size
      have hAs : Hid (aftL cells W [] cs = aftL cells W (L ++ opM cells W c) (cs.drop (k + 1))) := by rw [Hid, hA.out, Ht.out, HCC.out, aftL]
      have hNs : Hid (needGo cells W [] 0 cs = nd ++ ((if sameB cells W L c = true then [k] else []) ++ needGo cells W (L ++ opM cells W c) (k + 1) (cs.drop (k + 1)))) := by rw [Hid, hN.out, Ht.out, HCC.out, needGo]
      have hL2 : Hid (∀ x ∈ L ++ opM cells W c, x < cells.length) := aft_lt hL.out c
      have hkey : (c ∈ sortM cells.length L ∧ c ∉ zerosM cells W) ∨ (c ∈ sortM cells.length L ∧ c ∈ zerosM cells W) ∨ c ∉ sortM cells.length L := by
        by_cases h1 : c ∈ sortM cells.length L
        · by_cases h2 : c ∈ zerosM cells W
          · exact .inr (.inl ⟨h1, h2⟩)
          · exact .inl ⟨h1, h2⟩
        · exact .inr (.inr h1)
      rcases hkey with ⟨hin, hnz⟩ | hkey
      · -- an open cell that is no zero
        rw [show decide (c ∈ sortM cells.length L) = true by simpa using hin] at hHas
        have hss : sortM cells.length (L ++ opM cells W c) = sortM cells.length L := skip_same hck (not_zero hck HSK.out hnz) ((mem_sortM hL.out c).1 hin)
        have hsb : Hid (sameB cells W L c = true) := by rw [Hid, sameB, hss]; simp
        have hown6' : Owns wr w.heap.size 3 (.slice a6 (sortM cells.length L).length c6) (nats (sortM cells.length (L ++ opM cells W c))) := by rw [hss]; exact hown6
        have HOW := Lib.hid hown6'
        have hzl := zerosM_le cells W
        have HNZ : Hid (decide (c ∈ zerosM cells W) = false) := by simpa [Hid] using hnz
        have HH := Lib.hid hHas
        clear hin hnz hss hHas hown6'
        go_wp2_with fail
        refine HH.out.mono ?_
        rintro e w2 ⟨rfl, rfl⟩
        go_wp2_with fail
        refine (HZS.out _).mono ?_
        rintro e w3 ⟨a3, c3, rfl, hown3, hb3⟩
        have hz3 := l1HasN_any (zerosM cells W) c a3 c3 w3 hown3.at (by omega)
        rw [HNZ.out] at hz3
        have hown7' := hown7.later hb3
        have hown6' := HOW.out.later hb3
        have hbr3 := hbr.trans (hb3.mono hbr.size)
        have s3 := hb3.size
        clear hown3 hown7 hown6 hbr hb3
        go_wp2_with fail
        refine hz3.mono ?_
        rintro e w3' ⟨rfl, rfl⟩
        go_wp2_with (at_builtin; refine wpList_app1K rfl _ _ _ rfl w.heap.size _ _ _ elemInt _ _ _ _ rfl rfl rfl hown7' rfl (by simp; omega) (by omega) (by simp; omega) ?_; intro v9 w9 hown9 hb9 hs9 hK9)
        rw [nats_snoc] at hown9
        obtain ⟨hown69, hap9⟩ := hK9 _ _ _ _ hown6' hap
        have hNx : Hid (needGo cells W [] 0 cs = (nd ++ [k]) ++ needGo cells W (L ++ opM cells W c) (k + 1) (cs.drop (k + 1))) := by rw [Hid, hNs.out, if_pos hsb.out, List.append_assoc]
        have hbr9 := hbr3.trans hb9
        have hnd9 : (nd ++ [k]).length ≤ k + 1 := by simp; omega
        clear hK9 hown6' hown7' hbr3 hb9 hap hnd
        go_wp2_with fail
        go_roundw
        case rel => exact ⟨k + 1, L ++ opM cells W c, nd ++ [k], by omega, by go_num, hown69, hown9, hap9, hbr9, hnd9, hL2, hAs, hNx⟩
        case measure => simp [intOf]; omega
      · -- the click's cells are put to those that are open
        have hzl := zerosM_le cells W
        rcases hkey with ⟨hin, hz⟩ | hin
        case' inl =>
          rw [show decide (c ∈ sortM cells.length L) = true by simpa using hin] at hHas
          have HZ : Hid (decide (c ∈ zerosM cells W) = true) := by simpa [Hid] using hz
          have HH := Lib.hid hHas
          clear hin hz hHas
          go_wp2_with fail
          refine HH.out.mono ?_
          rintro e w2 ⟨rfl, rfl⟩
          go_wp2_with fail
          refine (HZS.out _).mono ?_
          rintro e w3 ⟨a3, c3, rfl, hown3, hb3⟩
          have hz3 := l1HasN_any (zerosM cells W) c a3 c3 w3 hown3.at (by omega)
          rw [HZ.out] at hz3
          have hown7q := hown7.later hb3
          have hown6q := hown6.later hb3
          have hbrq := hbr.trans (hb3.mono hbr.size)
          clear hown3 hown7 hown6 hbr hb3
          go_wp2_with fail
          refine hz3.mono ?_
          rintro e w3' ⟨rfl, rfl⟩
          go_wp2_with fail
        case' inr =>
          rw [show decide (c ∈ sortM cells.length L) = false by simpa using hin] at hHas
          have HH := Lib.hid hHas
          have hown7q := hown7
          have hown6q := hown6
          have hbrq := hbr
          clear hin hHas hown7 hown6 hbr
          go_wp2_with fail
          refine HH.out.mono ?_
          rintro e w2 ⟨rfl, rfl⟩
          go_wp2_with fail
        all_goals
          refine (HOC.out c _ hck).mono ?_
          rintro e w4 ⟨a4, c4, rfl, hown4, hb4⟩
          have hown6 := hown6q.later hb4
          have hown7 := hown7q.later hb4
          have hbr := hbrq.trans (hb4.mono hbrq.size)
          have hown4' := hown4.mono hbrq.size
          have hol := opM_le cells W c
          have hNt : Hid (needGo cells W [] 0 cs = nd ++ ((if ((sortM cells.length (L ++ opM cells W c)).length == (sortM cells.length L).length) = true then [k] else []) ++ needGo cells W (L ++ opM cells W c) (k + 1) (cs.drop (k + 1)))) := hNs.out
          clear hown6q hown7q hbrq hb4 hown4 hNs
          generalize opM cells W c = near at *
          go_wp2_with fail
          go_loopw [6, 40] (fun v6 j wr => ∃ m : Nat, m ≤ near.length ∧ j = .int .i64 m ∧ Owns wr w.heap.size 3 v6 (nats (sortM cells.length (L ++ near.take m))) ∧ Owns wr w.heap.size 3 u7 (nats nd) ∧ Apart u7 v6 ∧ Owns wr w.heap.size 3 (.slice a4 near.length c4) (nats near) ∧ Below w.heap.size w wr) (fun _ j _ => near.length - (intOf j).toNat)
          case atStart => exact ⟨0, Nat.zero_le _, rfl, by simpa using hown6, hown7, hap, hown4', hbr⟩
          case round =>
            clear hown6 hown7 hap hown4' hbr
            obtain ⟨m, hm, rfl, hown6, hown7, hap, hown4, hbr⟩ := hrel
            obtain ⟨a6', c6', hv6'⟩ := hown6.shape
            simp only [nats_length] at hv6'
            subst hv6'
            have sr := hbr.size
            have hLL : ∀ x ∈ L ++ near.take m, x < cells.length := fun x hx => hL2.out x (by
              rcases List.mem_append.1 hx with h | h
              · exact List.mem_append.2 (.inl h)
              · exact List.mem_append.2 (.inr (List.mem_of_mem_take h)))
            have HLL := Lib.hid hLL
            clear hLL
            have hsm := sortM_le cells.length (L ++ near.take m)
            by_cases hmt : m < near.length
            · obtain ⟨g4, off4, rfl, hc4⟩ := nats_at hown4.at m hmt
              have hxn : near[m] < cells.length := hL2.out _ (List.mem_append.2 (.inr (List.getElem_mem hmt)))
              have hHas2 := l1HasN_any (sortM cells.length (L ++ near.take m)) near[m] a6' c6' wr hown6.at (by omega)
              have htk : L ++ near.take (m + 1) = (L ++ near.take m) ++ [near[m]] := by rw [List.take_succ_eq_append_getElem hmt, List.append_assoc]
              by_cases hin2 : near[m] ∈ sortM cells.length (L ++ near.take m)
              · rw [show decide (near[m] ∈ sortM cells.length (L ++ near.take m)) = true by simpa using hin2] at hHas2
                have hsn : sortM cells.length (L ++ near.take (m + 1)) = sortM cells.length (L ++ near.take m) := by
                  rw [htk, sort_mem HLL.out hin2 [], List.append_nil]
                have hown6' : Owns wr w.heap.size 3 (.slice a6' (sortM cells.length (L ++ near.take m)).length c6') (nats (sortM cells.length (L ++ near.take (m + 1)))) := by rw [hsn]; exact hown6
                have HH2 := Lib.hid hHas2
                clear hin2 hHas2 htk hsn hown6
                go_wp2_with fail
                refine HH2.out.mono ?_
                rintro e w5 ⟨rfl, rfl⟩
                go_wp2_with fail
                go_roundw
                case rel =>
                  first
                    | exact ⟨m + 1, by omega, by go_num, hown6', hown7, hap, hown4, hbr⟩
                    | ((repeat apply Exists.intro); exact ⟨⟨m + 1, by omega, by go_num, hown6', hown7, hap, hown4, hbr⟩, rfl⟩)
                case measure => simp [intOf]; omega
              · rw [show decide (near[m] ∈ sortM cells.length (L ++ near.take m)) = false by simpa using hin2] at hHas2
                have hpm : putM (sortM cells.length (L ++ near.take m)) near[m] = sortM cells.length (L ++ near.take (m + 1)) := by
                  rw [htk]; exact putM_sort HLL.out hxn
                have HPM := Lib.hid hpm
                have HH2 := Lib.hid hHas2
                have hown6s : Owns wr w.heap.size 3 (.slice a6' (sortM cells.length (L ++ near.take m)).length c6') (nats (sortM cells.length (L ++ near.take m))) := hown6
                clear hin2 hHas2 htk hpm hown6
                go_wp2_with fail
                refine HH2.out.mono ?_
                rintro e w5 ⟨rfl, rfl⟩
                go_wp2_with fail
                refine (l1Put_any (sortM cells.length (L ++ near.take m)) near[m] _ w.heap.size _ hown6s (by omega) (by omega)).mono ?_
                rintro e w7 ⟨v7, rfl, hown7p, hb7, hor⟩
                rw [HPM.out] at hown7p
                have hap7 : Apart u7 v7 := by
                  rcases hor with rfl | hor
                  · exact hap
                  · exact Apart.fresh hown7 hor
                have hbr7 := hbr.trans (hb7.mono hbr.size)
                have hown77 := hown7.later hb7
                have hown47 := hown4.later hb7
                clear hown6s hown7 hown4 hb7 hbr hap hor
                go_wp2_with fail
                go_roundw
                case rel =>
                  first
                    | exact ⟨m + 1, by omega, by go_num, hown7p, hown77, hap7, hown47, hbr7⟩
                    | ((repeat apply Exists.intro); exact ⟨⟨m + 1, by omega, by go_num, hown7p, hown77, hap7, hown47, hbr7⟩, rfl⟩)
                case measure => simp [intOf]; omega
            · obtain rfl : m = near.length := by omega
              simp only [List.take_length] at hown6 hsm hap ⊢
              clear hm hmt HLL hown4
              cases hsb : ((sortM cells.length (L ++ near)).length == (sortM cells.length L).length) with
              | true =>
                have hd : (((sortM cells.length (L ++ near)).length : Int) == ((sortM cells.length L).length : Int)) = true := by
                  have h1 : (sortM cells.length (L ++ near)).length = (sortM cells.length L).length := by simpa using hsb
                  rw [h1]; simp
                have hNx : Hid (needGo cells W [] 0 cs = (nd ++ [k]) ++ needGo cells W (L ++ near) (k + 1) (cs.drop (k + 1))) := by rw [Hid, hNt, if_pos hsb, List.append_assoc]
                have hnd9 : (nd ++ [k]).length ≤ k + 1 := by simp; omega
                clear hsb hNt
                go_wp2_with (at_builtin; refine wpList_app1K rfl _ _ _ rfl w.heap.size _ _ _ elemInt _ _ _ _ rfl rfl rfl hown7 rfl (by simp; omega) (by omega) (by simp; omega) ?_; intro v9 w9 hown9 hb9 hs9 hK9)
                rw [nats_snoc] at hown9
                obtain ⟨hown69, hap9⟩ := hK9 _ _ _ _ hown6 hap
                have hbr9 := hbr.trans hb9
                clear hK9 hown6 hown7 hbr hb9 hap hnd
                go_wp2_with fail
                go_roundw
                case rel =>
                  first
                    | exact ⟨k + 1, L ++ near, nd ++ [k], by omega, by go_num, hown69, hown9, hap9, hbr9, hnd9, hL2, hAs, hNx⟩
                    | ((repeat apply Exists.intro); exact ⟨⟨k + 1, L ++ near, nd ++ [k], by omega, by go_num, hown69, hown9, hap9, hbr9, hnd9, hL2, hAs, hNx⟩, rfl⟩)
                case measure => simp [intOf]; omega
              | false =>
                have hd : (((sortM cells.length (L ++ near)).length : Int) == ((sortM cells.length L).length : Int)) = false := by
                  have h1 : ¬ (sortM cells.length (L ++ near)).length = (sortM cells.length L).length := by simpa using hsb
                  rw [beq_eq_false_iff_ne]; omega
                have hNx : Hid (needGo cells W [] 0 cs = nd ++ needGo cells W (L ++ near) (k + 1) (cs.drop (k + 1))) := by rw [Hid, hNt, if_neg (by rw [hsb]; decide)]; rfl
                clear hsb hNt
                go_wp2_with fail
                go_roundw
                case rel =>
                  first
                    | exact ⟨k + 1, L ++ near, nd, by omega, by go_num, hown6, hown7, hap, hbr, by omega, hL2, hAs, hNx⟩
                    | ((repeat apply Exists.intro); exact ⟨⟨k + 1, L ++ near, nd, by omega, by go_num, hown6, hown7, hap, hbr, by omega, hL2, hAs, hNx⟩, rfl⟩)
                case measure => simp [intOf]; omega
    · have hfin : Hid (sortM cells.length L = aftM cells W cs) := by rw [Hid, HAM.out, hA.out, List.drop_of_length_le (by omega)]; rfl
      have hfin2 : Hid (nd = needM cells W cs) := by rw [Hid, HNM.out, hN.out, List.drop_of_length_le (by omega)]; simp [needGo]
      obtain rfl : k = cs.length := by omega
      rw [hfin.out] at hown6
      rw [hfin2.out] at hown7
      obtain ⟨a6, c6, hv6⟩ := hown6.shape
      obtain ⟨a7, c7, hv7⟩ := hown7.shape
      simp only [nats_length] at hv6 hv7
      subst hv6 hv7
      clear hlt hA hN
      go_wp2_with fail
      go_ret2
      exact ⟨a6, c6, a7, c7, rfl, hown6, hown7, hbr⟩
end Go.Proofs.YtndmkbkmfonefacDoor
