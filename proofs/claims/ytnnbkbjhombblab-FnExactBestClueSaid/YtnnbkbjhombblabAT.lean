/- The clue that the fewest boards fit, by the model. -/
import Derived.Test.YtnnbkbjhombblabAS
import Derived.Test.YtnnbkbjhombblabAN
import Derived.Test.YtnnbkbjhombblabAD
namespace Go.Proofs.Ytnnbkbjhombblab
open Go.RowKit

/-- A single clue of a row. -/
theorem at_one {w : World} {g off k : Nat} {cs : List Clu} (h : At w (some ⟨g, off, none⟩) (flatC cs)) (hk : k < cs.length) : At w (some ⟨g, off + k * 3, none⟩) (flatC [cs[k]]) := by
  have e1 : cs = cs.take k ++ [cs[k]] ++ cs.drop (k + 1) := by
    rw [List.append_assoc, List.singleton_append, ← List.drop_eq_getElem_cons hk, List.take_append_drop]
  rw [e1, flatC_append, flatC_append] at h
  have := at_sub h
  rwa [flatC_length, List.length_take, Nat.min_eq_left (by omega)] at this
set_option maxRecDepth 100000 in
set_option maxHeartbeats 3200000 in
theorem sBest_any (x y : Int) (a : Option Addr) (n cap : Nat) (cs : List Clu) (w : World) (hn : n = cs.length) (hcap : n ≤ cap) (hcm : cap ≤ 9223372036854775807) (hat : At w a (flatC cs)) :
    Calls Try.prog 9 #[.agg #[.int .i64 x, .int .i64 y, .slice a n cap]] w fun e w' => e = .returned (.tuple #[.int .i64 (bcN x y cs : Nat), .bool (bcB x y cs)]) ∧ Below w.heap.size w w' := by
  subst hn
  have hb : Below w.heap.size w (w.alloc (.cells #[.int .i64 x, .int .i64 y, .slice a cs.length cap] 30)) := (Below.refl _ _).alloc (Nat.le_refl _) _
  have hat1 := hat.later rfl hb
  have HP := Lib.hid (fun w hat => pzGood_any x y a cs.length cap cs w rfl hat)
  have hG := heap_alloc_new w (.cells #[.int .i64 x, .int .i64 y, .slice a cs.length cap] 30)
  cases h : pzB x y cs with
  | false =>
    have HN := Lib.hid (bc_no h)
    rw [h] at HP
    clear h hG
    go_enter Try.func9, Try.ntmps9
    go_wp2_with fail
    refine (HP.out _ hat1).mono ?_
    rintro e w1 ⟨rfl, hb1⟩
    have hb2 := hb.trans (hb1.mono hb.size)
    clear hb hb1 hat1 hat
    go_wp2_with fail
    go_ret2
    exact ⟨by rw [HN.out.1, HN.out.2]; rfl, hb2⟩
  | true =>
    rw [h] at HP
    obtain ⟨W, H, rfl, rfl, hW, hH, h9, hs, h8, hc⟩ := pz_yes h
    have HY := Lib.hid (fun h0 => bc_yes (W := W) (H := H) (cs := cs) h h0)
    have HW := Lib.hid (fun b m c w => pzWith_any (W : Int) H a cs.length cap b m c w)
    have HA := Lib.hid (fun c (hcm : c ∈ cs) a' cap' w hat => pzAll_any W H 1 cap' a' [c] w hW hH h9 rfl (by simp) (by simpa using hc c hcm) hat)
    clear h hs hc
    go_enter Try.func9, Try.ntmps9
    go_wp2_with fail
    generalize w.alloc (.cells #[.int .i64 W, .int .i64 H, .slice a cs.length cap] 30) = w0 at *
    refine (HP.out _ hat1).mono ?_
    rintro e w1 ⟨rfl, hb1⟩
    have hb2 := hb.trans (hb1.mono hb.size)
    have hG1 := (hb1.block _ (block_lt hG)).trans hG
    have hat2 := hat1.later rfl hb1
    clear hb hb1 hat1 hat hG
    have f0 := cell_of_block hG1 0
    have f1 := cell_of_block hG1 1
    have f2 := cell_of_block hG1 2
    simp at f0 f1 f2
    have HG1 := Lib.hid hG1
    have hGl : w.heap.size < w1.heap.size := block_lt hG1
    clear hG1
    by_cases h0 : cs.length = 0
    · obtain rfl : cs = [] := List.eq_nil_of_length_eq_zero h0
      clear HY
      simp only [List.length_nil] at *
      go_wp2_with fail
      go_ret2
      exact ⟨by rw [bc_nil.1, bc_nil.2]; rfl, hb2⟩
    · have HY2 := Lib.hid (HY.out (by omega))
      have hne : ((cs.length : Int) == 0) = false := by rw [beq_eq_false_iff_ne]; omega
      have hak : ∀ k (hk : k < cs.length), (aloneC W H cs).getD k 0 = ((solC W (W * H) [cs[k]]).length : Int) := fun k hk => by simp [aloneC, hk]
      have HAK := Lib.hid hak
      have hbk : ∀ k, bstK (aloneC W H cs) (k + 1) = if k = 0 ∨ (aloneC W H cs).getD k 0 < (bstK (aloneC W H cs) k).2 then (k, (aloneC W H cs).getD k 0) else bstK (aloneC W H cs) k := fun k => rfl
      have HBK := Lib.hid hbk
      generalize aloneC W H cs = ns at *
      clear HY hak hbk
      obtain ⟨g, off, rfl, hgl, -⟩ := clu_at hat2 0 (by omega)
      go_wp2_with fail
      have hb2s := hb2
      generalize hGG : w.heap.size = G at HG1 hGl ⊢
      go_loopw [4, 5, 20] (fun b l i wr => ∃ k : Nat, k ≤ cs.length ∧ i = .int .i64 k ∧ b = .int .i64 ((bstK ns k).1 : Nat) ∧ l = .int .i64 (bstK ns k).2 ∧ Below w1.heap.size w1 wr) (fun _ _ i _ => cs.length - (intOf i).toNat)
      case atStart => exact ⟨0, Nat.zero_le _, rfl, rfl, rfl, Below.refl _ _⟩
      case round =>
        clear f0 f1 f2
        obtain ⟨k, hk, rfl, rfl, rfl, hbr⟩ := hrel
        by_cases hlt : k < cs.length
        · have hGr := (hbr.block _ hGl).trans HG1.out
          have hatk := at_one (hat2.later rfl hbr) hlt
          have HAk := Lib.hid (HA.out cs[k] (List.getElem_mem hlt))
          have HNk := Lib.hid (HAK.out k hlt)
          have HBk := Lib.hid (HBK.out k)
          generalize cs[k] = c at *
          generalize hsl : (solC W (W * H) [c]).length = z at *
          have hzb : z ≤ 512 := by rw [← hsl]; exact solC_le W (W * H) h9 [c]
          generalize hbe : bstK ns k = be at *
          generalize hnk : ns.getD k 0 = nk at *
          obtain rfl : nk = (z : Int) := HNk.out
          have hk1 : (k : Int) + 1 ≤ cap := by omega
          go_upto_region 7 with fail
          have hS : wr.drew.rangeAt G 0 [.int .i64 W, .int .i64 H, .slice (some ⟨g, off, none⟩) cs.length cap] := range3 (cell_of_block hGr 0) (cell_of_block hGr 1) (cell_of_block hGr 2)
          have p1 : (0 : Int) ≤ (k : Int) + 1 := by omega
          have p2 : ¬ (cap = k) := by omega
          refine wp_region_held_drew (S := fun w' => w'.rangeAt G 0 [.int .i64 W, .int .i64 H, .slice (some ⟨g, off, none⟩) cs.length cap]) (by kernel_rfl) hS (fun hHH => ?_)
          refine wpAnyH_take (i := 0) (v := .agg #[.int .i64 W, .int .i64 H, .slice (some ⟨g, off, none⟩) cs.length cap]) rfl (by kernel_rfl) (by kernel_rfl) (by kernel_rfl) (fun _ _ _ h => h) (yieldsIf_load_mid (by rfl) 30 _ rfl G 0 rfl [.int .i64 W, .int .i64 H, .slice (some ⟨g, off, none⟩) cs.length cap] _ (fun _ h => h) Try.underlying30 rfl infPuz) hHH ?_
          try simp only [Act.put, List.setIfInBounds_toArray, List.set_cons_zero, List.set_cons_succ]
          refine wpAnyH_take (i := 1) (v := .pointer (some ⟨G, 2, none⟩)) rfl (by kernel_rfl) (by kernel_rfl) (by kernel_rfl) (fun _ _ _ h => h) (Or.inl ⟨by rfl, fun w' _ => by unfold execOp; go_simp⟩) hHH ?_
          try simp only [Act.put, List.setIfInBounds_toArray, List.set_cons_zero, List.set_cons_succ]
          refine wpAnyH_take (i := 2) (v := .slice (some ⟨g, off, none⟩) cs.length cap) rfl (by kernel_rfl) (by kernel_rfl) (by kernel_rfl) (fun _ _ _ h => h) (Or.inl ⟨by rfl, fun w' hw => by have p0 := hw 2 _ rfl; unfold execOp; go_simp⟩) hHH ?_
          try simp only [Act.put, List.setIfInBounds_toArray, List.set_cons_zero, List.set_cons_succ]
          refine wpAnyH_take (i := 3) (v := .int .i64 k) rfl (by kernel_rfl) (by kernel_rfl) (by kernel_rfl) (fun _ _ _ h => h) (Or.inl ⟨by rfl, fun w' _ => by unfold execOp; go_simp⟩) hHH ?_
          try simp only [Act.put, List.setIfInBounds_toArray, List.set_cons_zero, List.set_cons_succ]
          refine wpAnyH_take (i := 4) (v := .int .i64 k) rfl (by kernel_rfl) (by kernel_rfl) (by kernel_rfl) (fun _ _ _ h => h) (Or.inl ⟨by rfl, fun w' _ => by unfold execOp; go_simp⟩) hHH ?_
          try simp only [Act.put, List.setIfInBounds_toArray, List.set_cons_zero, List.set_cons_succ]
          refine wpAnyH_take (i := 5) (v := .int .i64 ((k : Int) + 1)) rfl (by kernel_rfl) (by kernel_rfl) (by kernel_rfl) (fun _ _ _ h => h) (Or.inl ⟨by rfl, fun w' _ => by unfold execOp; go_simp; rw [IntKind.wrap_i64]; omega⟩) hHH ?_
          try simp only [Act.put, List.setIfInBounds_toArray, List.set_cons_zero, List.set_cons_succ]
          refine wpAnyH_take (i := 6) (v := .slice (some ⟨g, off + k * 3, none⟩) 1 (cap - k)) rfl (by kernel_rfl) (by kernel_rfl) (by kernel_rfl) (fun _ _ _ h => h) (Or.inl ⟨by rfl, fun w' _ => by unfold execOp; go_simp⟩) hHH ?_
          try simp only [Act.put, List.setIfInBounds_toArray, List.set_cons_zero, List.set_cons_succ]
          refine wpAnyH_ready (rs := [7]) (by kernel_rfl) (by simp) ?_
          refine AllReadyH.cons rfl (fun K hK => ?_) AllReadyH.nil
          go_simp
          refine (HW.out _ _ _ _).mono ?_
          rintro e w3 ⟨rfl, hb3⟩
          go_wp2_with fail
          have hS3 := range_later hS hb3
          have hat3 := hatk.drew.later rfl hb3
          refine hK.out _ _ hS3 (fun hH3 => ?_)
          clear hK K hHH
          refine wpAnyH_ready (rs := [8]) (by kernel_rfl) (by simp) ?_
          refine AllReadyH.cons rfl (fun K hK => ?_) AllReadyH.nil
          go_simp
          refine (HAk.out _ _ _ hat3).mono ?_
          rintro e w4 ⟨a4, c4, rfl, hown4, hb4⟩
          go_wp2_with fail
          have hS4 := range_later hS3 hb4
          refine hK.out _ _ hS4 (fun hH4 => ?_)
          clear hK K hH3
          have hbr4 : Below w1.heap.size w1 w4 := (hbr.trans ((ofDrewC hb3).mono hbr.size)).trans (hb4.mono (Nat.le_trans hbr.size (ofDrewC hb3).size))
          clear hown4 hb3 hb4 hat3 hatk hS3
          refine wpAnyH_ready (rs := [9]) (by kernel_rfl) (by simp) ?_
          refine AllReadyH.cons rfl (fun K hK => ?_) AllReadyH.nil
          go_simp
          refine hK.out _ _ hS4 (fun hH5 => ?_)
          clear hK K hH4
          refine wpAnyH_ready (rs := [10]) (by kernel_rfl) (by simp) ?_
          refine AllReadyH.cons rfl (fun K hK => ?_) AllReadyH.nil
          go_simp
          refine hK.out _ _ hS4 (fun hH6 => ?_)
          clear hK K hH5
          refine wpAnyH_done (by kernel_rfl) ?_ _
          have hz1 : (z : Int) ≤ 512 := by omega
          by_cases hk0 : k = 0
          · subst hk0
            have HB0 : Hid (bstK ns (0 + 1) = (0, (z : Int))) := by rw [Hid, HBk.out]; exact if_pos (.inl rfl)
            clear HBk
            go_wp2_with fail
            go_roundw
            case rel => exact ⟨0 + 1, by omega, by go_num, by rw [HB0.out], by rw [HB0.out], hbr4⟩
            case measure => simp [intOf]; omega
          · have hkn : ((k : Int) == 0) = false := by rw [beq_eq_false_iff_ne]; omega
            have hkn2 : ¬ ((k : Int) = 0) := by omega
            by_cases hzl : (z : Int) < be.snd
            · have HB0 : Hid (bstK ns (k + 1) = (k, (z : Int))) := by rw [Hid, HBk.out]; exact if_pos (.inr hzl)
              clear HBk
              go_wp2_with fail
              go_roundw
              case rel => exact ⟨k + 1, by omega, by go_num, by rw [HB0.out], by rw [HB0.out], hbr4⟩
              case measure => simp [intOf]; omega
            · have HB0 : Hid (bstK ns (k + 1) = be) := by rw [Hid, HBk.out]; exact if_neg (by omega)
              clear HBk
              go_wp2_with fail
              go_roundw
              case rel => exact ⟨k + 1, by omega, by go_num, by rw [HB0.out], by rw [HB0.out], hbr4⟩
              case measure => simp [intOf]; omega
        · obtain rfl : k = cs.length := by omega
          go_wp2_with fail
          go_ret2
          exact ⟨by rw [HY2.out.1, HY2.out.2]; rfl, hb2.trans (hbr.mono hb2.size)⟩
end Go.Proofs.Ytnnbkbjhombblab
