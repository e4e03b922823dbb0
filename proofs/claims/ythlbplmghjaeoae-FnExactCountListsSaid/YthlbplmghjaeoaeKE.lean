/- Listed boards by the program: all boards of a size. -/
import Derived.Test.YthlbplmghjaeoaeKD
import Derived.Outline
namespace Go.Proofs.Ythlbplmghjaeoae
open Go.RowKit

set_option maxRecDepth 100000 in
set_option maxHeartbeats 6400000 in
theorem listBoards_of (W H : Nat) (hW : 1 ≤ W) (h12 : W * H ≤ 12)
    (hfg : ∀ w, Calls Try.prog 80 #[.int .i64 W, .int .i64 H] w fun e w' => ∃ a cap, e = .returned (.agg #[.int .i64 W, .int .i64 H, .slice a (W * H) cap, .bool false]) ∧ Owns w' w.heap.size 5 (.slice a (W * H) cap) (byts (List.replicate (W * H) 46)) ∧ Below w.heap.size w w') (w : World) :
    Calls Try.prog 66 #[.int .i64 W, .int .i64 H] w fun e w' => ∃ v, e = .returned v ∧ OwnsB w' w.heap.size v (listGo W (W * H) (W * H)) ∧ Below w.heap.size w w' := by
  generalize hn : W * H = n at *
  have hnb := fun a cap c w (hc : c < n) => neighbours_any W H a n cap c w hW (by omega) (by omega)
  have HNB := Lib.hid hnb
  have HFG := Lib.hid hfg
  clear hnb hfg hn
  go_enter Try.func66, Try.ntmps66
  go_wp2_with fail
  refine (HFG.out _).mono ?_
  rintro e w1 ⟨a, cap, rfl, hown, hb1⟩
  clear hown
  go_wp2_with fail
  have hG : Hid ((w1.alloc (.cells #[.int .i64 W, .int .i64 H, .slice a n cap, .bool false] 66)).heap[w1.heap.size]? = some (.cells #[.int .i64 W, .int .i64 H, .slice a n cap, .bool false] 66 (0, 0))) := heap_alloc_new w1 _
  have hb2 : Below w.heap.size w (w1.alloc (.cells #[.int .i64 W, .int .i64 H, .slice a n cap, .bool false] 66)) := hb1.alloc hb1.size _
  have hs2 : w1.heap.size + 1 = (w1.alloc (.cells #[.int .i64 W, .int .i64 H, .slice a n cap, .bool false] 66)).heap.size := by simp
  have hGl : w1.heap.size < (w1.alloc (.cells #[.int .i64 W, .int .i64 H, .slice a n cap, .bool false] 66)).heap.size := by simp
  rw [hs2]
  generalize w1.alloc (.cells #[.int .i64 W, .int .i64 H, .slice a n cap, .bool false] 66) = w2 at *
  have hsz := hb1.size
  clear hb1 hs2
  generalize w1.heap.size = G at *
  have hO : OwnsB (w2.alloc (.cells #[.int .u8 0, .int .u8 0, .int .u8 0, .int .u8 0, .int .u8 0, .int .u8 0, .int .u8 0, .int .u8 0, .int .u8 0, .int .u8 0, .int .u8 0, .int .u8 0, .int .u8 0, .int .u8 0, .int .u8 0, .int .u8 0, .int .u8 0, .int .u8 0, .int .u8 0, .int .u8 0, .int .u8 0, .int .u8 0, .int .u8 0, .int .u8 0] 45)) (G + 1) (.slice (some ⟨w2.heap.size, 0, none⟩) 1 1) (listGo W n 0) := by
    refine ⟨by simp [flatB_length, listGo], .inr ⟨w2.heap.size, 1, #[.int .u8 0, .int .u8 0, .int .u8 0, .int .u8 0, .int .u8 0, .int .u8 0, .int .u8 0, .int .u8 0, .int .u8 0, .int .u8 0, .int .u8 0, .int .u8 0, .int .u8 0, .int .u8 0, .int .u8 0, .int .u8 0, .int .u8 0, .int .u8 0, .int .u8 0, .int .u8 0, .int .u8 0, .int .u8 0, .int .u8 0, .int .u8 0], rfl, by omega, heap_alloc_new w2 _, by simp [listGo], by simp [maxLen], rfl, ?_⟩⟩
    show _ = encB default ++ []
    rw [defB]; rfl
  have hG3 : Hid ((w2.alloc (.cells #[.int .u8 0, .int .u8 0, .int .u8 0, .int .u8 0, .int .u8 0, .int .u8 0, .int .u8 0, .int .u8 0, .int .u8 0, .int .u8 0, .int .u8 0, .int .u8 0, .int .u8 0, .int .u8 0, .int .u8 0, .int .u8 0, .int .u8 0, .int .u8 0, .int .u8 0, .int .u8 0, .int .u8 0, .int .u8 0, .int .u8 0, .int .u8 0] 45)).heap[G]? = some (.cells #[.int .i64 W, .int .i64 H, .slice a n cap, .bool false] 66 (0, 0))) := by
    rw [Hid, Below.heap_alloc _ _ _ hGl]; exact hG.out
  have hb3 : Below w.heap.size w (w2.alloc (.cells #[.int .u8 0, .int .u8 0, .int .u8 0, .int .u8 0, .int .u8 0, .int .u8 0, .int .u8 0, .int .u8 0, .int .u8 0, .int .u8 0, .int .u8 0, .int .u8 0, .int .u8 0, .int .u8 0, .int .u8 0, .int .u8 0, .int .u8 0, .int .u8 0, .int .u8 0, .int .u8 0, .int .u8 0, .int .u8 0, .int .u8 0, .int .u8 0] 45)) := hb2.alloc hb2.size _
  clear hG hb2 hGl
  generalize w2.alloc (.cells #[.int .u8 0, .int .u8 0, .int .u8 0, .int .u8 0, .int .u8 0, .int .u8 0, .int .u8 0, .int .u8 0, .int .u8 0, .int .u8 0, .int .u8 0, .int .u8 0, .int .u8 0, .int .u8 0, .int .u8 0, .int .u8 0, .int .u8 0, .int .u8 0, .int .u8 0, .int .u8 0, .int .u8 0, .int .u8 0, .int .u8 0, .int .u8 0] 45) = w3 at *
  generalize hv0 : Value.slice (some ⟨w2.heap.size, 0, none⟩) 1 1 = v0 at *
  clear hv0
  generalize Value.agg #[.int .u8 0, .int .u8 0, .int .u8 0, .int .u8 0, .int .u8 0, .int .u8 0, .int .u8 0, .int .u8 0, .int .u8 0, .int .u8 0, .int .u8 0, .int .u8 0, .int .u8 0, .int .u8 0, .int .u8 0, .int .u8 0, .int .u8 0, .int .u8 0, .int .u8 0, .int .u8 0, .int .u8 0, .int .u8 0, .int .u8 0, .int .u8 0] = z0
  go_loopw [6, 20] (fun v i wr => ∃ k : Nat, k ≤ n ∧ i = .int .i64 k ∧ OwnsB wr (G + 1) v (listGo W n k) ∧ Hid (wr.heap[G]? = some (.cells #[.int .i64 W, .int .i64 H, .slice a n cap, .bool false] 66 (0, 0))) ∧ Below w.heap.size w wr) (fun _ i _ => n - (intOf i).toNat)
  case atStart => exact ⟨0, Nat.zero_le _, rfl, hO, hG3, hb3⟩
  case round =>
    clear hO hG3 hb3
    obtain ⟨k, hk, rfl, hO, hG3, hb3⟩ := hrel
    by_cases hlt : k < n
    · have hf0 := cell_of_block hG3.out 0
      have hf1 := cell_of_block hG3.out 1
      have hf2 := cell_of_block hG3.out 2
      have hf3 := cell_of_block hG3.out 3
      simp at hf0 hf1 hf2 hf3
      obtain ⟨ab, capb, hv⟩ := hO.shape
      subst hv
      go_wp2_with fail
      refine (HNB.out _ _ _ _ hlt).mono ?_
      rintro e w4 ⟨an, capn, rfl, hon, hb4⟩
      have hO4 := hO.later hb4
      have hG4 : Hid (w4.heap[G]? = some (.cells #[.int .i64 W, .int .i64 H, .slice a n cap, .bool false] 66 (0, 0))) := (hb4.block G (block_lt hG3.out)).trans hG3.out
      have hb4' : Below w.heap.size w w4 := hb3.trans (hb4.mono hb3.size)
      have hN4 := hon.at
      clear hO hG3 hb3 hf0 hf1 hf2 hf3
      go_wp2_with fail
      have hN12 : ∀ o ∈ nearM W n k, o < 12 := fun o ho => by have := nearM_lt W n k o ho; omega
      have hNl : (nearM W n k).length ≤ 12 := Nat.le_trans (nearM_le W n k) h12
      have HX : Hid (listGo W n (k + 1) = (listGo W n k).flatMap fun x => [x.wth k 42 (nearM W n k), x.wth k 46 (nearM W n k)]) := rfl
      have hm4 : (listGo W n k).length ≤ 4096 := by rw [listGo_length W n k (by omega)]; exact Nat.pow_le_pow_right (by decide) (show k ≤ 12 by omega)
      generalize listGo W n k = L at *
      generalize nearM W n k = N at *
      clear hon hb4
      go_loopw [9, 28] (fun v i wr => ∃ j : Nat, j ≤ L.length ∧ i = .int .i64 j ∧ OwnsB wr w4.heap.size v ((L.take j).flatMap fun x => [x.wth k 42 N, x.wth k 46 N]) ∧ Below w4.heap.size w4 wr) (fun _ i _ => L.length - (intOf i).toNat)
      case atStart => exact ⟨0, Nat.zero_le _, rfl, OwnsB.nil _ _, Below.refl _ _⟩
      case round =>
        obtain ⟨j, hj, rfl, hown, hbr⟩ := hrel
        by_cases hjl : j < L.length
        · obtain ⟨g, cb, cur, hv, hg1, hg2, hgb, hgc, hgs, hgr⟩ := (hO4.later hbr).open (by omega)
          obtain ⟨rfl, _, rfl⟩ : ab = some ⟨g, 0, none⟩ ∧ L.length = L.length ∧ capb = cb := by simpa using hv
          have hrj := hgr j hjl
          have HTJ : Hid ((L.take (j + 1)).flatMap (fun x => [x.wth k 42 N, x.wth k 46 N]) = (L.take j).flatMap (fun x => [x.wth k 42 N, x.wth k 46 N]) ++ [L[j].wth k 42 N, L[j].wth k 46 N]) := by
            rw [Hid, List.take_succ_eq_append_getElem hjl, List.flatMap_append]; rfl
          have hfl : ((L.take j).flatMap (fun x => [x.wth k 42 N, x.wth k 46 N])).length = j * 2 := by
            rw [List.length_flatMap]; simp [List.map_const']; omega
          generalize hxx : L[j] = x at *
          clear hxx
          go_upto_region 10 with fail
          refine wp_region_lit ?_
          go_step
          go_step
          go_step
          refine wpList_load_mid rfl 45 _ rfl g (j * 24) rfl (encB x) _ hrj Try.underlying45 rfl (inf67.trans (by rw [encB_len])) ?_
          have hxl := encB_len x
          go_step
          go_step
          go_step
          have hA5 : (wr.alloc (.cells #[.int .u8 0, .int .u8 0, .int .u8 0, .int .u8 0, .int .u8 0, .int .u8 0, .int .u8 0, .int .u8 0, .int .u8 0, .int .u8 0, .int .u8 0, .int .u8 0, .int .u8 0, .int .u8 0, .int .u8 0, .int .u8 0, .int .u8 0, .int .u8 0, .int .u8 0, .int .u8 0, .int .u8 0, .int .u8 0, .int .u8 0, .int .u8 0] 45)).heap[wr.heap.size]? = some (.cells #[.int .u8 0, .int .u8 0, .int .u8 0, .int .u8 0, .int .u8 0, .int .u8 0, .int .u8 0, .int .u8 0, .int .u8 0, .int .u8 0, .int .u8 0, .int .u8 0, .int .u8 0, .int .u8 0, .int .u8 0, .int .u8 0, .int .u8 0, .int .u8 0, .int .u8 0, .int .u8 0, .int .u8 0, .int .u8 0, .int .u8 0, .int .u8 0] 45 (0, 0)) := heap_alloc_new wr _
          have hb5 : Below wr.heap.size wr ((wr.alloc (.cells #[.int .u8 0, .int .u8 0, .int .u8 0, .int .u8 0, .int .u8 0, .int .u8 0, .int .u8 0, .int .u8 0, .int .u8 0, .int .u8 0, .int .u8 0, .int .u8 0, .int .u8 0, .int .u8 0, .int .u8 0, .int .u8 0, .int .u8 0, .int .u8 0, .int .u8 0, .int .u8 0, .int .u8 0, .int .u8 0, .int .u8 0, .int .u8 0] 45)).setCells wr.heap.size 0 (encB x)) := below_setCells (encB x) 0 ((Below.refl _ _).alloc (Nat.le_refl _) _) (Nat.le_refl _)
          have hR5 := World.rangeAt_setCells_same (wr.alloc (.cells #[.int .u8 0, .int .u8 0, .int .u8 0, .int .u8 0, .int .u8 0, .int .u8 0, .int .u8 0, .int .u8 0, .int .u8 0, .int .u8 0, .int .u8 0, .int .u8 0, .int .u8 0, .int .u8 0, .int .u8 0, .int .u8 0, .int .u8 0, .int .u8 0, .int .u8 0, .int .u8 0, .int .u8 0, .int .u8 0, .int .u8 0, .int .u8 0] 45)) wr.heap.size 0 (encB x) (by rw [encB_len]; exact there24 hA5 rfl)
          refine wpList_store_mid rfl 45 _ _ rfl wr.heap.size 0 (encB x).toArray rfl rfl (by rw [encB_size]; exact there24 hA5 rfl) (inf67.trans (by rw [encB_size])) (all_oneCell_toArray (encB_one x)) ?_
          refine wpList_nil ?_
          have hbx := World.block_lt_of_cell? _ _ (hR5 0 _ (encB_get x 0 (by decide)))
          simp only at hbx
          clear hA5
          generalize (wr.alloc (.cells #[.int .u8 0, .int .u8 0, .int .u8 0, .int .u8 0, .int .u8 0, .int .u8 0, .int .u8 0, .int .u8 0, .int .u8 0, .int .u8 0, .int .u8 0, .int .u8 0, .int .u8 0, .int .u8 0, .int .u8 0, .int .u8 0, .int .u8 0, .int .u8 0, .int .u8 0, .int .u8 0, .int .u8 0, .int .u8 0, .int .u8 0, .int .u8 0] 45)).setCells wr.heap.size 0 (encB x) = w5 at *
          have hown5 := hown.later hb5
          have hbr5 : Below w4.heap.size w4 w5 := hbr.trans (hb5.mono hbr.size)
          have hN5 := hN4.later rfl hbr5
          have hvx : ∀ b, u9.ownBlock = some b → b < wr.heap.size := fun b hb => (hown.lt b hb).2
          have hC5 := c24_of hR5
          have hR5d : w5.drew.rangeAt wr.heap.size 0 (encB x) := hR5
          have hN5d : At w5.drew an (nats N) := hN5
          have hown5d : OwnsB w5.drew w4.heap.size u9 _ := hown5
          have hk12 : k < 12 := by omega
          generalize wr.heap.size = BX at *
          go_wp2_with fail
          refine wp_region_held_drew (S := fun w' => w'.rangeAt BX 0 (encB x)) (by kernel_rfl) hR5d (fun hH => ?_)
          refine wpAnyH_take (i := 0) (v := _) rfl (by kernel_rfl) (by kernel_rfl) (by kernel_rfl) (fun _ _ _ h => h) (Or.inl ⟨by rfl, fun _ _ => rfl⟩) hH ?_
          simp only [Act.put, List.setIfInBounds_toArray, List.set_cons_zero, List.set_cons_succ]
          refine wpAnyH_take (i := 1) (v := .agg (encB x).toArray) rfl (by kernel_rfl) (by kernel_rfl) (by kernel_rfl) (fun _ _ _ h => h) (yieldsIf_load_mid (by rfl) 45 _ rfl BX 0 rfl (encB x) _ (fun _ h => h) Try.underlying45 rfl (inf67.trans (by rw [encB_len]))) hH ?_
          simp only [Act.put, List.setIfInBounds_toArray, List.set_cons_zero, List.set_cons_succ]
          refine wpAnyH_take (i := 2) (v := _) rfl (by kernel_rfl) (by kernel_rfl) (by kernel_rfl) (fun _ _ _ h => h) (Or.inl ⟨by rfl, fun _ _ => rfl⟩) hH ?_
          simp only [Act.put, List.setIfInBounds_toArray, List.set_cons_zero, List.set_cons_succ]
          refine wpAnyH_take (i := 3) (v := _) rfl (by kernel_rfl) (by kernel_rfl) (by kernel_rfl) (fun _ _ _ h => h) (Or.inl ⟨by rfl, fun _ _ => rfl⟩) hH ?_
          simp only [Act.put, List.setIfInBounds_toArray, List.set_cons_zero, List.set_cons_succ]
          refine wpAnyH_take (i := 5) (v := .agg (encB x).toArray) rfl (by kernel_rfl) (by kernel_rfl) (by kernel_rfl) (fun _ _ _ h => h) (yieldsIf_load_mid (by rfl) 45 _ rfl BX 0 rfl (encB x) _ (fun _ h => h) Try.underlying45 rfl (inf67.trans (by rw [encB_len]))) hH ?_
          simp only [Act.put, List.setIfInBounds_toArray, List.set_cons_zero, List.set_cons_succ]
          refine wpAnyH_take (i := 6) (v := _) rfl (by kernel_rfl) (by kernel_rfl) (by kernel_rfl) (fun _ _ _ h => h) (Or.inl ⟨by rfl, fun _ _ => rfl⟩) hH ?_
          simp only [Act.put, List.setIfInBounds_toArray, List.set_cons_zero, List.set_cons_succ]
          refine wpAnyH_take (i := 7) (v := _) rfl (by kernel_rfl) (by kernel_rfl) (by kernel_rfl) (fun _ _ _ h => h) (Or.inl ⟨by rfl, fun _ _ => rfl⟩) hH ?_
          simp only [Act.put, List.setIfInBounds_toArray, List.set_cons_zero, List.set_cons_succ]
          refine wpAnyH_ready (rs := [4]) (by kernel_rfl) (by simp) ?_
          refine AllReadyH.cons rfl (fun K hK => ?_) AllReadyH.nil
          go_simp
          refine (lbMine_any x k N _ capn _ hk12 hN12 hNl hN5d).mono ?_
          rintro e w6 ⟨rfl, hb6⟩
          go_wp2_with fail
          refine hK.out _ _ (range_later hR5d hb6) (fun hH6 => ?_)
          clear hK K hH
          refine wpAnyH_ready (rs := [8]) (by kernel_rfl) (by simp) ?_
          refine AllReadyH.cons rfl (fun K hK => ?_) AllReadyH.nil
          go_simp
          refine (lbFree_any x k N _ capn _ hk12 hN12 hNl (hN5d.later rfl hb6)).mono ?_
          rintro e w7 ⟨rfl, hb7⟩
          go_wp2_with fail
          have hR7 := range_later hH6 hb7
          refine hK.out _ _ hR7 (fun hH7 => ?_)
          clear hK K hH6 hH7
          have h5s : w5.heap.size ≤ w6.heap.size := hb6.size
          have hownA := ((hown5d.later hb6).later hb7).later ((Below.refl _ _).alloc (Nat.le_refl _) (.cells (two (x.wth k 42 N) (x.wth k 46 N)) 45))
          have hsA : (w7.alloc (.cells (two (x.wth k 42 N) (x.wth k 46 N)) 45)).heap.size = w7.heap.size + 1 := by simp
          have hRA := two_range (x.wth k 42 N) (x.wth k 46 N) w7 45
          have hRX := World.rangeAt_alloc hR7 (.cells (two (x.wth k 42 N) (x.wth k 46 N)) 45)
          have hbA : Below w4.heap.size w4 (w7.alloc (.cells (two (x.wth k 42 N) (x.wth k 46 N)) 45)) := ((hbr5.trans ((ofDrew hb6).mono hbr5.size)).trans (hb7.mono (by have := hbr5.size; omega))).alloc (by have := hbr5.size; have := hb7.size; omega) _
          refine wpAnyH_ready (rs := [9]) (by kernel_rfl) (by simp) ?_
          refine AllReadyH.cons rfl (fun K hK => ?_) AllReadyH.nil
          rw [if_pos (by rfl)]
          refine wp_build2 _ _ rfl (x.wth k 42 N) (x.wth k 46 N) rfl rfl ?_
          refine hK.out _ _ hRX (fun hHA => ?_)
          clear hK K hHA
          refine wpAnyH_ready (rs := [10]) (by kernel_rfl) (by simp) ?_
          refine AllReadyH.cons rfl (fun K hK => ?_) AllReadyH.nil
          refine step_appB rfl _ _ (by rfl) w4.heap.size _ _ (by rfl) hownA w7.heap.size 2 [x.wth k 42 N, x.wth k 46 N] rfl (by rfl) hRA (by rw [hfl]; simp only [List.length_cons, List.length_nil]; omega) hbA.size ?_
          intro v8 w8 hown8 hb8 hkeep8
          have hR8 := range_heap hRX (hkeep8 BX (by rw [hsA]; have := hb7.size; omega) (fun e => absurd (hvx _ e) (Nat.lt_irrefl _)))
          refine hK.out _ _ hR8 (fun hH8 => ?_)
          clear hK K hH8
          simp only [Act.put, List.setIfInBounds_toArray, List.set_cons_zero, List.set_cons_succ]
          refine wpAnyH_ready (rs := [11]) (by kernel_rfl) (by simp) ?_
          refine AllReadyH.cons rfl (fun K hK => ?_) AllReadyH.nil
          go_simp
          refine hK.out _ _ hR8 (fun hH8 => ?_)
          clear hK K hH8
          refine wpAnyH_done (by kernel_rfl) ?_ _
          rw [← HTJ.out] at hown8
          have hbr8 : Below w4.heap.size w4 w8 := hbA.trans hb8
          go_wp2_with fail
          go_roundw
          case rel => exact ⟨j + 1, by omega, by go_num, hown8, hbr8⟩
          case measure => simp [intOf]; omega
        · obtain rfl : j = L.length := by omega
          rw [List.take_length, ← HX.out] at hown
          go_wp2_with fail
          go_roundw
          case rel => exact ⟨k + 1, by omega, by go_num, hown.mono (by have := hb4'.size; have := block_lt hG4.out; omega), (hbr.block G (block_lt hG4.out)).trans hG4.out, hb4'.trans (hbr.mono hb4'.size)⟩
          case measure => simp [intOf]; omega
    · obtain rfl : k = n := by omega
      go_wp2_with fail
      go_ret
      exact ⟨_, rfl, hO.mono (by omega), hb3⟩
theorem listBoards_any (W H : Nat) (hW : 1 ≤ W ∧ W ≤ 8) (hH : 1 ≤ H ∧ H ≤ 8) (h12 : W * H ≤ 12) (w : World) :
    Calls Try.prog 66 #[.int .i64 W, .int .i64 H] w fun e w' => ∃ v, e = .returned v ∧ OwnsB w' w.heap.size v (listGo W (W * H) (W * H)) ∧ Below w.heap.size w w' :=
  listBoards_of W H hW.1 h12 (fun w => freeGrid_any W H w hW.2 hH.2) w
end Go.Proofs.Ythlbplmghjaeoae
