/- Opening: all openings and their first zeros, by the program. -/
import Derived.Test.YtndmkbkmfonefacDoorYD
import Derived.Outline
namespace Go.Proofs.YtndmkbkmfonefacDoor
open Go.RowKit

theorem nearM_lts (W : Geo) (n y : Nat) : ∀ x ∈ nearM W n y, x < n := fun x hx => nearM_lt W n y x hx
/-- What a click makes open, put to what was open. -/
theorem click_mem (cells : List UInt8) (W : Geo) (c : Nat) (L : List Nat) (hc : c < cells.length) (hL : Closed (nearM W cells.length) (zeroB cells W) L) (x : Nat) :
    x ∈ L ++ bfs (nearM W cells.length) (zeroB cells W) L cells.length 0 [c] ↔ x ∈ L ++ opM cells W c := by
  rw [bfs_mem (nearM_lts W cells.length) hc hL, List.mem_append, opM, mem_sortM (bfs_lt (nearM_lts W cells.length) hc), bfs0_mem (nearM_lts W cells.length) hc]

set_option maxRecDepth 100000 in
set_option maxHeartbeats 3200000 in
theorem firstZerosJ_any {J : Bool} (W H : Nat) (a : Option Addr) (cells : List UInt8) (cap : Nat) (w : World) (hat : At w a (byts cells)) (h64 : cells.length ≤ 64) (hw1 : 0 < cells.length → 1 ≤ W) (hJ : J = true → (1 ≤ W ∧ W ≤ 1048576) ∧ (1 ≤ H ∧ H ≤ 1048576)) :
    Calls Tryd.prog 40 #[.agg #[.int .i64 W, .int .i64 H, .slice a cells.length cap, .bool J]] w fun e w' => ∃ a' cap', e = .returned (.slice a' (firstsM cells (geoOf J W H)).length cap') ∧ Owns w' w.heap.size 3 (.slice a' (firstsM cells (geoOf J W H)).length cap') (nats (firstsM cells (geoOf J W H))) ∧ Below w.heap.size w w' := by
  have hzl := zerosM_le cells (geoOf J W H)
  have HZ : Hid (∀ x ∈ zerosM cells (geoOf J W H), x < cells.length) := fun x hx => zerosM_lt cells (geoOf J W H) x hx
  have HF : Hid (firstsM cells (geoOf J W H) = [] ++ fzGo (opM cells (geoOf J W H)) (zerosM cells (geoOf J W H)) []) := rfl
  have hb0 : Below w.heap.size w (w.alloc (.cells #[.int .i64 W, .int .i64 H, .slice a cells.length cap, .bool J] 42)) := (Below.refl _ _).alloc (Nat.le_refl _) _
  have hG0 : (w.alloc (.cells #[.int .i64 W, .int .i64 H, .slice a cells.length cap, .bool J] 42)).heap[w.heap.size]? = some (.cells #[.int .i64 W, .int .i64 H, .slice a cells.length cap, .bool J] 42 (0, 0)) := heap_alloc_new w _
  have hs0 : (w.alloc (.cells #[.int .i64 W, .int .i64 H, .slice a cells.length cap, .bool J] 42)).heap.size = w.heap.size + 1 := by simp
  have hf0 := cell_of_block hG0 0
  have hf1 := cell_of_block hG0 1
  have hf2 := cell_of_block hG0 2
  have hf3 := cell_of_block hG0 3
  simp only [List.getElem?_toArray, List.getElem?_cons_zero, List.getElem?_cons_succ] at hf0 hf1 hf2 hf3
  generalize firstsM cells (geoOf J W H) = firsts at *
  have hmm := @run_makeMap Tryd.prog
  go_enter Tryd.func40, Tryd.ntmps40
  go_wp2_with fail
  have hat0 : At (w.alloc (.cells #[.int .i64 W, .int .i64 H, .slice a cells.length cap, .bool J] 42)) a (byts cells) := hat.later rfl hb0
  generalize w.alloc (.cells #[.int .i64 W, .int .i64 H, .slice a cells.length cap, .bool J] 42) = w0 at *
  have hbm : Below w0.heap.size w0 (w0.alloc (.map #[] 0)) := (Below.refl _ _).alloc (Nat.le_refl _) _
  have hMm := Marks.made w0
  rw [hs0] at hMm
  have HS0 := Lib.hid hs0
  have hGm := (hbm.block w.heap.size (by omega)).trans hG0
  have hatm := hat0.later rfl hbm
  have hsm : w0.heap.size < (w0.alloc (.map #[] 0)).heap.size := by simp
  have hbw : Below w.heap.size w (w0.alloc (.map #[] 0)) := hb0.trans (hbm.mono (by omega))
  clear hf0 hf1 hf2 hf3 hmm hs0 hG0 hat0 hbm hb0
  have HGM := Lib.hid hGm
  clear hGm
  generalize w0.alloc (.map #[] 0) = wm at *
  refine (withoutJ_any W H a cells cap 46 46 rfl _ hatm h64 hw1 hJ).mono ?_
  rintro e w1 ⟨a1, cap1, rfl, hown1, hb1⟩
  rw [show zGo cells (geoOf J W H) 46 0 cells.length = zerosM cells (geoOf J W H) from rfl] at hown1 ⊢
  have s1 := hb1.size
  have hM1 := hMm.later hb1
  have hat1 := hatm.later rfl hb1
  have hG1 : Hid (w1.heap[w.heap.size]? = some (.cells #[.int .i64 W, .int .i64 H, .slice a cells.length cap, .bool J] 42 (0, 0))) := (hb1.block _ (by have := HS0.out; omega)).trans HGM.out
  have hz1 := hown1.at
  have hbw1 := hbw.trans (hb1.mono (by have := HS0.out; omega))
  have hbl : w.heap.size + 1 < w1.heap.size := by have := HS0.out; omega
  clear hMm hatm hbw hown1 hb1
  generalize zerosM cells (geoOf J W H) = zeros at *
  go_wp2_with fail
  go_loopw [4, 11] (fun v i wr => ∃ (k : Nat) (acc L : List Nat), k ≤ zeros.length ∧ i = .int .i64 k ∧ acc.length ≤ k ∧ L.length ≤ 64 * k ∧ Owns wr w1.heap.size 3 v (nats acc) ∧ Marks wr (w.heap.size + 1) L ∧ Touch (w.heap.size + 1) w1 wr ∧ Hid (Closed (nearM (geoOf J W H) cells.length) (zeroB cells (geoOf J W H)) L) ∧ Hid (firsts = acc ++ fzGo (opM cells (geoOf J W H)) (zeros.drop k) L)) (fun _ i _ => zeros.length - (intOf i).toNat)
  case atStart => exact ⟨0, [], [], Nat.zero_le _, rfl, by simp, by simp, Owns.nil _ _ _, hM1, Touch.refl _ _, closed_nil, HF⟩
  case round =>
    obtain ⟨k, acc, L, hk, rfl, hak, hLk, hown, hM, ht, hC, hR⟩ := hrel
    have sr := ht.size
    by_cases hlt : k < zeros.length
    · have Ht := Lib.hid (List.drop_eq_getElem_cons hlt)
      have hzn : zeros[k] < cells.length := HZ.out _ (List.getElem_mem hlt)
      have hzs : zeros[k] < 1099511627776 := by omega
      have hW1 := hw1 (by omega)
      obtain ⟨g0, off0, he0, hc0⟩ := nats_at (hz1.touch ht hM1.nocells) k hlt
      subst he0
      by_cases hin : zeros[k] ∈ L
      · have hd : decide (zeros[k] ∈ L) = true := by simpa using hin
        have HIN := Lib.hid hin
        have HD := Lib.hid hd
        clear hin hd
        go_wp2_with (at_lookup; refine wpList_mark_look rfl _ _ rfl (w.heap.size + 1) _ rfl hM _ rfl hzs true HD.out ?_)
        go_roundw
        case rel =>
          first
            | exact ⟨k + 1, acc, L, by omega, by go_num, by omega, by omega, hown, hM, ht, hC, by rw [Hid, hR.out, Ht.out, fzGo, if_pos HIN.out]⟩
            | ((repeat apply Exists.intro); exact ⟨⟨k + 1, acc, L, by omega, by go_num, by omega, by omega, hown, hM, ht, hC, by rw [Hid, hR.out, Ht.out, fzGo, if_pos HIN.out]⟩, rfl⟩)
        case measure => simp [intOf]; omega
      · have hd : decide (zeros[k] ∈ L) = false := by simpa using hin
        have HIN := Lib.hid hin
        have HD := Lib.hid hd
        clear hin hd
        have hGr : ∀ w', Below w1.heap.size wr w' → w'.heap[w.heap.size]? = some (.cells #[.int .i64 W, .int .i64 H, .slice a cells.length cap, .bool J] 42 (0, 0)) := fun w' h => by
          rw [h.block _ (by omega), ht.block _ (by omega) (by simp)]; exact hG1.out
        have HGR := Lib.hid hGr
        clear hGr
        go_wp2_with (first
          | (at_lookup; refine wpList_mark_look rfl _ _ rfl (w.heap.size + 1) _ rfl hM _ rfl hzs false HD.out ?_)
          | (at_builtin; refine wpList_app1 rfl _ _ _ rfl _ _ _ _ elemInt _ _ _ _ rfl rfl rfl hown rfl (by simp; omega) sr (by simp; omega) ?_; intro v3 w3 hown3 hb3 hs3; have q0 := cell_of_block (HGR.out w3 hb3) 0; have q1 := cell_of_block (HGR.out w3 hb3) 1; have q2 := cell_of_block (HGR.out w3 hb3) 2; have q3 := cell_of_block (HGR.out w3 hb3) 3; simp at q0 q1 q2 q3))
        rw [nats_snoc] at hown3
        have hM3 := hM.kept hbl hb3
        have ht3 := ht.then hb3 (Nat.le_refl _)
        clear q0 q1 q2 q3 hM
        refine (clickJ_any W H a cells cap (w.heap.size + 1) L zeros[k] w3 (hat1.touch ht3 hM1.nocells) hM3 (by omega) hW1 h64 hzn hJ).mono ?_
        rintro e w4 ⟨rfl, hM4, ht4⟩
        have hcl : (bfs (nearM (geoOf J W H) cells.length) (zeroB cells (geoOf J W H)) L cells.length 0 [zeros[k]]).length ≤ cells.length := bfs_len (nearM_lts (geoOf J W H) cells.length) hzn
        have hC4 : Hid (Closed (nearM (geoOf J W H) cells.length) (zeroB cells (geoOf J W H)) (L ++ bfs (nearM (geoOf J W H) cells.length) (zeroB cells (geoOf J W H)) L cells.length 0 [zeros[k]])) := bfs_closed (nearM_lts (geoOf J W H) cells.length) hzn hC.out
        have hcg : Hid (fzGo (opM cells (geoOf J W H)) (zeros.drop (k + 1)) (L ++ opM cells (geoOf J W H) zeros[k]) = fzGo (opM cells (geoOf J W H)) (zeros.drop (k + 1)) (L ++ bfs (nearM (geoOf J W H) cells.length) (zeroB cells (geoOf J W H)) L cells.length 0 [zeros[k]])) :=
          fzGo_congr _ _ _ _ (fun x => (click_mem cells (geoOf J W H) zeros[k] L hzn hC.out x).symm)
        go_wp2_with fail
        go_roundw
        case rel =>
          first
            | exact ⟨k + 1, _, _, by omega, by go_num, by simp; omega, by simp; omega, hown3.touch ht4 (by omega), hM4, ht3.trans ht4, hC4, by rw [Hid, hR.out, Ht.out, fzGo, if_neg HIN.out, hcg.out]; simp⟩
            | ((repeat apply Exists.intro); exact ⟨⟨k + 1, _, _, by omega, by go_num, by simp; omega, by simp; omega, hown3.touch ht4 (by omega), hM4, ht3.trans ht4, hC4, by rw [Hid, hR.out, Ht.out, fzGo, if_neg HIN.out, hcg.out]; simp⟩, rfl⟩)
        case measure => simp [intOf]; omega
    · obtain rfl : k = zeros.length := by omega
      have hfin : acc = firsts := by rw [hR.out, List.drop_length]; simp [fzGo]
      go_wp2_with fail
      go_ret
      rw [hfin] at hown
      obtain ⟨a', cap', hv⟩ := hown.shape
      simp only [nats_length] at hv
      exact ⟨a', cap', by rw [← hv]; rfl, by rw [← hv]; exact hown.mono (by omega), hbw1.trans (ht.below (by omega) (by omega))⟩
/-- The same where rows are not joined. -/
theorem firstZeros_any (W H : Nat) (a : Option Addr) (cells : List UInt8) (cap : Nat) (w : World) (hat : At w a (byts cells)) (h64 : cells.length ≤ 64) (hw1 : 0 < cells.length → 1 ≤ W) :
    Calls Tryd.prog 40 #[.agg #[.int .i64 W, .int .i64 H, .slice a cells.length cap, .bool false]] w fun e w' => ∃ a' cap', e = .returned (.slice a' (firstsM cells W).length cap') ∧ Owns w' w.heap.size 3 (.slice a' (firstsM cells W).length cap') (nats (firstsM cells W)) ∧ Below w.heap.size w w' :=
  firstZerosJ_any W H a cells cap w hat h64 hw1 nofun

set_option maxRecDepth 100000 in
set_option maxHeartbeats 3200000 in
theorem openingsJ_any {J : Bool} (W H : Nat) (a : Option Addr) (cells : List UInt8) (cap : Nat) (w : World) (hat : At w a (byts cells)) (h64 : cells.length ≤ 64) (hw1 : 0 < cells.length → 1 ≤ W) (hJ : J = true → (1 ≤ W ∧ W ≤ 1048576) ∧ (1 ≤ H ∧ H ≤ 1048576)) :
    Calls Tryd.prog 54 #[.agg #[.int .i64 W, .int .i64 H, .slice a cells.length cap, .bool J]] w fun e w' => ∃ v us, e = .returned v ∧ us.length = (openingsM cells (geoOf J W H)).length ∧
      Fam w' w.heap.size ((v, 25, us) :: rowsF us (openingsM cells (geoOf J W H))) ∧ Below w.heap.size w w' := by
  have hfl := firstsM_le cells (geoOf J W H)
  have HL : Hid (∀ x ∈ firstsM cells (geoOf J W H), x < cells.length) := fun x hx => firstsM_lt cells (geoOf J W H) x hx
  have HO : Hid (openingsM cells (geoOf J W H) = (firstsM cells (geoOf J W H)).map (opM cells (geoOf J W H))) := rfl
  have hole := fun c => opM_le cells (geoOf J W H) c
  have HOL := Lib.hid hole
  have hop := fun (w : World) (k : Nat) (h : At w a (byts cells)) (h1 : 1 ≤ W) (hk : k < cells.length) => openedByJ_any W H a cells cap k w h h1 h64 hk hJ
  have HOP := Lib.hid hop
  have hfz := fun (w : World) (h : At w a (byts cells)) => firstZerosJ_any W H a cells cap w h h64 hw1 hJ
  have HFZ := Lib.hid hfz
  clear hop hole hfz
  have hb0 : Below w.heap.size w (w.alloc (.cells #[.int .i64 W, .int .i64 H, .slice a cells.length cap, .bool J] 42)) := (Below.refl _ _).alloc (Nat.le_refl _) _
  have hG0 : (w.alloc (.cells #[.int .i64 W, .int .i64 H, .slice a cells.length cap, .bool J] 42)).heap[w.heap.size]? = some (.cells #[.int .i64 W, .int .i64 H, .slice a cells.length cap, .bool J] 42 (0, 0)) := heap_alloc_new w _
  have hs0 : w.heap.size < (w.alloc (.cells #[.int .i64 W, .int .i64 H, .slice a cells.length cap, .bool J] 42)).heap.size := by simp
  generalize openingsM cells (geoOf J W H) = openings at *
  generalize firstsM cells (geoOf J W H) = firsts at *
  generalize opM cells (geoOf J W H) = op at *
  go_enter Tryd.func54, Tryd.ntmps54
  go_wp2_with fail
  have hat0 : At (w.alloc (.cells #[.int .i64 W, .int .i64 H, .slice a cells.length cap, .bool J] 42)) a (byts cells) := hat.later rfl hb0
  generalize w.alloc (.cells #[.int .i64 W, .int .i64 H, .slice a cells.length cap, .bool J] 42) = w0 at *
  have HG0 := Lib.hid hG0
  clear hG0
  refine (HFZ.out _ hat0).mono ?_
  rintro e w1 ⟨a1, cap1, rfl, hown1, hb1⟩
  have s1 := hb1.size
  have hat1 := hat0.later rfl hb1
  have HG1 : Hid (w1.heap[w.heap.size]? = some (.cells #[.int .i64 W, .int .i64 H, .slice a cells.length cap, .bool J] 42 (0, 0))) := (hb1.block _ hs0).trans HG0.out
  have hz1 := hown1.at
  have hb01 := hb0.trans (hb1.mono (by omega))
  clear hown1 hb1 hb0 hat0
  go_wp2_with fail
  go_loopw [3, 9] (fun v i wr => ∃ (k : Nat) (us : List Value), k ≤ firsts.length ∧ i = .int .i64 k ∧ us.length = k ∧ Fam wr w1.heap.size ((v, 25, us) :: rowsF us ((firsts.take k).map op)) ∧ Below w1.heap.size w1 wr) (fun _ i _ => firsts.length - (intOf i).toNat)
  case atStart => exact ⟨0, [], Nat.zero_le _, rfl, rfl, (Fam.empty _ _).nil, Below.refl _ _⟩
  case round =>
    obtain ⟨k, us, hk, rfl, hus, hF, hbr⟩ := hrel
    have HUS := Lib.hid hus
    have hus' : us.length ≤ k := by omega
    clear hus
    have sr := hbr.size
    by_cases hlt : k < firsts.length
    · have hzn : firsts[k] < cells.length := HL.out _ (List.getElem_mem hlt)
      have hW1 := hw1 (by omega)
      obtain ⟨g0, off0, he0, hc0⟩ := nats_at (hz1.below hz1 (Nat.le_refl _) hbr) k hlt
      subst he0
      have hGr : wr.heap[w.heap.size]? = some (.cells #[.int .i64 W, .int .i64 H, .slice a cells.length cap, .bool J] 42 (0, 0)) := (hbr.block _ (by omega)).trans HG1.out
      have hf0 := cell_of_block hGr 0
      have hf1 := cell_of_block hGr 1
      have hf2 := cell_of_block hGr 2
      have hf3 := cell_of_block hGr 3
      simp at hf0 hf1 hf2 hf3
      clear hGr
      go_wp2_with fail
      refine (HOP.out wr _ (hat1.below hat1 (Nat.le_refl _) hbr) hW1 hzn).mono ?_
      rintro e w2 ⟨au, capu, rfl, hownu, hb2⟩
      have s2 := hb2.size
      have hF2 := (hF.fresh hb2 hownu sr).swap
      clear hF hf0 hf1 hf2 hf3 hc0 hownu
      go_wp2_with (at_builtin; refine wpList_app1F rfl _ _ _ rfl w1.heap.size _ _ _ elemRow _ _ _ _ _ rfl rfl rfl hF2 rfl (by omega) (by omega) (by omega) ?_; intro v8 w8 hF8 hb8 hs8)
      have hF9 := hF8.perm ((List.Perm.cons _ (List.perm_append_singleton _ _).symm))
      have e1 : rowsF us ((firsts.take k).map op) ++ [(.slice au (op firsts[k]).length capu, 3, nats (op firsts[k]))] = rowsF (us ++ [.slice au (op firsts[k]).length capu]) ((firsts.take (k + 1)).map op) := by
        rw [List.take_succ_eq_append_getElem hlt, List.map_append, List.map_cons, List.map_nil, rowsF_snoc _ _ us _ (by rw [List.length_map, List.length_take, HUS.out]; omega)]
      rw [e1] at hF9
      clear e1 hF8 hF2
      go_roundw
      case rel =>
        first
          | exact ⟨k + 1, _, by omega, by go_num, by simp [HUS.out], hF9, (hbr.trans (hb2.mono sr)).trans hb8⟩
          | ((repeat apply Exists.intro); exact ⟨⟨k + 1, _, by omega, by go_num, by simp [HUS.out], hF9, (hbr.trans (hb2.mono sr)).trans hb8⟩, rfl⟩)
      case measure => simp [intOf]; omega
    · obtain rfl : k = firsts.length := by omega
      go_wp2_with fail
      go_ret
      rw [List.take_length, ← HO.out] at hF
      exact ⟨_, us, rfl, by rw [HO.out, List.length_map]; exact HUS.out, hF.mono (by omega), hb01.trans (hbr.mono (by omega))⟩
/-- The same where rows are not joined. -/
theorem openings_any (W H : Nat) (a : Option Addr) (cells : List UInt8) (cap : Nat) (w : World) (hat : At w a (byts cells)) (h64 : cells.length ≤ 64) (hw1 : 0 < cells.length → 1 ≤ W) :
    Calls Tryd.prog 54 #[.agg #[.int .i64 W, .int .i64 H, .slice a cells.length cap, .bool false]] w fun e w' => ∃ v us, e = .returned v ∧ us.length = (openingsM cells W).length ∧
      Fam w' w.heap.size ((v, 25, us) :: rowsF us (openingsM cells W)) ∧ Below w.heap.size w w' :=
  openingsJ_any W H a cells cap w hat h64 hw1 nofun
end Go.Proofs.YtndmkbkmfonefacDoor
