/- Needless clues: by the program and by the model. -/
import Derived.Test.YtnnbkbjhombblabAQ
import Derived.Test.YtnnbkbjhombblabAN
import Derived.Test.YtnnbkbjhombblabAA
import Derived.Test.YtnnbkbjhombblabAD
namespace Go.Proofs.Ytnnbkbjhombblab
open Go.RowKit

/-- Is a clue needless? -/
def ndB (W H : Nat) (cs : List Clu) (k : Nat) : Bool := ((solC W (W * H) (cs.eraseIdx k)).length : Int) == ((solC W (W * H) cs).length : Int)
def needK (W H : Nat) (cs : List Clu) : Nat → List Int
  | 0 => []
  | k + 1 => if ndB W H cs k = true then needK W H cs k ++ [(k : Int)] else needK W H cs k
theorem needK_le (W H : Nat) (cs : List Clu) : ∀ k, (needK W H cs k).length ≤ k
  | 0 => Nat.le_refl _
  | k + 1 => by
    have := needK_le W H cs k
    rw [needK]
    split
    · rw [List.length_append]; simp; omega
    · omega
def needV (x y : Int) (cs : List Clu) : List Int := if pzB x y cs = true then needK x.toNat y.toNat cs cs.length else []
theorem need_no {x y : Int} {cs : List Clu} (h : pzB x y cs = false) : needV x y cs = [] := by simp [needV, h]
theorem need_yes {W H : Nat} {cs : List Clu} (h : pzB W H cs = true) : needV W H cs = needK W H cs cs.length := by simp [needV, h]
theorem need_len (x y : Int) (cs : List Clu) : (needV x y cs).length ≤ 8 := by
  rw [needV]
  split
  · rename_i h
    obtain ⟨W, H, rfl, rfl, _, _, _, _, h8, _⟩ := pz_yes h
    exact Nat.le_trans (needK_le _ _ _ _) h8
  · simp
set_option maxRecDepth 100000 in
set_option maxHeartbeats 1600000 in
theorem iNeed_any (x y : Int) (a : Option Addr) (n cap : Nat) (cs : List Clu) (w : World) (hn : n = cs.length) (hat : At w a (flatC cs)) :
    Calls Try.prog 14 #[.agg #[.int .i64 x, .int .i64 y, .slice a n cap]] w fun e w' => ∃ a' c', e = .returned (.tuple #[.slice a' (needV x y cs).length c', .bool (pzB x y cs)]) ∧ Owns w' w.heap.size 3 (.slice a' (needV x y cs).length c') (ints (needV x y cs)) ∧ Below w.heap.size w w' := by
  subst hn
  have hb : Below w.heap.size w (w.alloc (.cells #[.int .i64 x, .int .i64 y, .slice a cs.length cap] 30)) := (Below.refl _ _).alloc (Nat.le_refl _) _
  have hat1 := hat.later rfl hb
  cases h : pzB x y cs with
  | false =>
    have HN := Lib.hid (need_no h)
    have HR := Lib.hid (fun w hat => readS_no x y a cs.length cap cs w rfl hat h)
    clear h
    go_enter Try.func14, Try.ntmps14
    go_wp2_with fail
    refine (HR.out _ hat1).mono ?_
    rintro e w1 ⟨rfl, hb1⟩
    have hb2 := hb.trans (hb1.mono hb.size)
    have hb3 := hb2.alloc hb2.size (.cells #[.int .i64 0, .int .i64 0, .slice none 0 0] 30)
    clear hb hb1 hat1 hat hb2
    go_wp2_with fail
    go_loopw [7, 18] (fun v i wr => v = .slice none 0 0 ∧ i = .int .i64 0 ∧ Below w.heap.size w wr) (fun _ _ _ => 0)
    case atStart => exact ⟨rfl, rfl, hb3⟩
    case round =>
      obtain ⟨rfl, rfl, hbr⟩ := hrel
      go_wp2_with fail
      go_ret2
      refine ⟨none, 0, ?_, ?_, hbr⟩
      · rw [HN.out]; rfl
      · rw [HN.out]; exact Owns.nil _ _ _
  | true =>
    obtain ⟨W, H, rfl, rfl, hW, hH, h9, hs, h8, hc⟩ := pz_yes h
    have HN := Lib.hid (need_yes h)
    have HR := Lib.hid (fun w hat => readS_yes W H a cs.length cap cs w rfl hat h)
    have HC := Lib.hid (fun n' cap' a' (ds : List Clu) w (h8 : ds.length ≤ 8) (hd : ∀ c ∈ ds, cluB W H c = true) (hn : n' = ds.length) hat => countSol_any W H n' cap' a' ds w hW hH h9 hn (by omega) hd hat)
    have HCC := Lib.hid hc
    have HWO := Lib.hid (fun B n' cap' k a' w' hR hk hB => without_any (W : Int) (H : Int) B n' cap' k a' cs w' hR hk hB (by omega))
    have HKE := Lib.hid (needK_le W H cs)
    clear h hs hc
    go_enter Try.func14, Try.ntmps14
    go_wp2_with fail
    refine (HR.out _ hat1).mono ?_
    rintro e w1 ⟨v1, u1, rfl, hR1, hO1, hb1⟩
    obtain ⟨a1, c1, hv⟩ := hR1.shape
    subst hv
    obtain ⟨a2, c2, hv⟩ := hO1.shape
    subst hv
    simp only [List.length_map]
    have hb2 := hb.trans (hb1.mono hb.size)
    have hbx : Below w1.heap.size w1 (w1.alloc (.cells #[.int .i64 W, .int .i64 H, .slice a1 cs.length c1] 30)) := (Below.refl _ _).alloc (Nat.le_refl _) _
    have hX := heap_alloc_new w1 (.cells #[.int .i64 W, .int .i64 H, .slice a1 cs.length c1] 30)
    have hR2 := (hR1.mono hb.size).below hbx
    have hb3 := hb2.trans (hbx.mono hb2.size)
    go_upto_region 2 with fail
    clear hb hb1 hat1 hat hbx hR1 hO1
    generalize w1.alloc (.cells #[.int .i64 W, .int .i64 H, .slice a1 cs.length c1] 30) = w2 at *
    clear hb2
    generalize w1.heap.size = X at *
    have hBl : w.heap.size ≤ w2.heap.size := hb3.size
    have f0 := cell_of_block hX 0
    have f1 := cell_of_block hX 1
    have f2 := cell_of_block hX 2
    simp at f0 f1 f2
    have HX := Lib.hid hX
    have hXl : X < w2.heap.size := block_lt hX
    clear hX
    go_wp2_with fail
    go_loopw [7, 18] (fun v i wr => ∃ k : Nat, k ≤ cs.length ∧ i = .int .i64 k ∧ Owns wr w2.heap.size 3 v (ints (needK W H cs k)) ∧ Below w2.heap.size w2 wr) (fun _ i _ => cs.length - (intOf i).toNat)
    case atStart => exact ⟨0, Nat.zero_le _, rfl, Owns.nil _ _ _, Below.refl _ _⟩
    case round =>
      clear f0 f1 f2
      obtain ⟨k, hk, rfl, hown, hbr⟩ := hrel
      by_cases hlt : k < cs.length
      · have hXr := (hbr.block _ hXl).trans HX.out
        have hRr := hR2.below hbr
        have hll := HKE.out k
        have hel : (cs.eraseIdx k).length ≤ 8 := Nat.le_trans (List.length_eraseIdx_le cs k) h8
        have HEL := Lib.hid hel
        have hct : ∀ c ∈ cs.eraseIdx k, cluB W H c = true := fun c hx => HCC.out c (List.mem_of_mem_eraseIdx hx)
        clear hel
        have f0 := cell_of_block hXr 0
        have f1 := cell_of_block hXr 1
        have f2 := cell_of_block hXr 2
        simp at f0 f1 f2
        clear hXr
        go_wp2_with fail
        refine (HWO.out _ _ _ k _ wr hRr hlt (Nat.le_trans hBl hbr.size)).mono ?_
        rintro e w3 ⟨v3, rfl, hR3, hb4⟩
        obtain ⟨a3, c3, hv⟩ := hR3.shape
        subst hv
        have hown1 := hown.later hb4
        have hbr1 := hbr.trans (hb4.mono hbr.size)
        have hat3 := hR3.at
        clear hRr hb4 hown hbr f0 f1 f2 hR3
        go_wp2_with fail
        refine (HC.out _ _ _ (cs.eraseIdx k) w3 HEL.out hct rfl hat3).mono ?_
        rintro e w4 ⟨rfl, hb4⟩
        have hown2 := hown1.later hb4
        have hbr2 := hbr1.trans (hb4.mono hbr1.size)
        have hs2 := hbr2.size
        clear hb4 hown1 hbr1 hat3
        cases hd : ndB W H cs k with
        | true =>
          have hdd : (((solC W (W * H) (cs.eraseIdx k)).length : Int) == ((solC W (W * H) cs).length : Int)) = true := hd
          have HK2 : Hid (needK W H cs (k + 1) = needK W H cs k ++ [(k : Int)]) := by rw [Hid, needK, if_pos hd]
          clear hd
          go_wp2_with (at_builtin; refine wpList_app1 rfl _ _ _ rfl _ _ _ _ elemInt _ _ _ _ rfl rfl rfl hown2 rfl (by simp; omega) hs2 (by simp; omega) ?_; intro v5 w5 hown3 hb5 hs3)
          rw [ints_snoc, ← HK2.out] at hown3
          go_roundw
          case rel => exact ⟨k + 1, by omega, by go_num, hown3, hbr2.trans hb5⟩
          case measure => simp [intOf]; omega
        | false =>
          have hdd : (((solC W (W * H) (cs.eraseIdx k)).length : Int) == ((solC W (W * H) cs).length : Int)) = false := hd
          have HK2 : Hid (needK W H cs (k + 1) = needK W H cs k) := by rw [Hid, needK, if_neg (by rw [hd]; decide)]
          clear hd
          rw [← HK2.out] at hown2
          go_wp2_with fail
          go_roundw
          case rel => exact ⟨k + 1, by omega, by go_num, hown2, hbr2⟩
          case measure => simp [intOf]; omega
      · obtain rfl : k = cs.length := by omega
        obtain ⟨a3, c3, hv⟩ := hown.shape
        subst hv
        rw [ints_length] at hown ⊢
        go_wp2_with fail
        go_ret2
        refine ⟨a3, c3, ?_, ?_, hb3.trans (hbr.mono hb3.size)⟩
        · rw [HN.out]; rfl
        · rw [HN.out]; exact hown.mono hb3.size
set_option maxRecDepth 100000 in
set_option maxHeartbeats 6400000 in
theorem sNeed_any (x y : Int) (B : Nat) (a : Option Addr) (n cap : Nat) (cs : List Clu) (w : World) (hn : n = cs.length) (hR : RowC w B (.slice a n cap) cs) :
    Calls Try.prog 13 #[.agg #[.int .i64 x, .int .i64 y, .slice a n cap]] w fun e w' => ∃ a' c', e = .returned (.tuple #[.slice a' (needV x y cs).length c', .bool (pzB x y cs)]) ∧ Owns w' w.heap.size 3 (.slice a' (needV x y cs).length c') (ints (needV x y cs)) ∧ Below w.heap.size w w' := by
  subst hn
  have hat := hR.at
  have hcap := hR.cap.1
  have hcm := hR.cap.2
  have hb : Below w.heap.size w (w.alloc (.cells #[.int .i64 x, .int .i64 y, .slice a cs.length cap] 30)) := (Below.refl _ _).alloc (Nat.le_refl _) _
  have hat1 := hat.later rfl hb
  have HP := Lib.hid (fun w hat => pzGood_any x y a cs.length cap cs w rfl hat)
  have hG := heap_alloc_new w (.cells #[.int .i64 x, .int .i64 y, .slice a cs.length cap] 30)
  clear hR
  cases h : pzB x y cs with
  | false =>
    have HN := Lib.hid (need_no h)
    rw [h] at HP
    clear h hG
    go_enter Try.func13, Try.ntmps13
    go_wp2_with fail
    refine (HP.out _ hat1).mono ?_
    rintro e w1 ⟨rfl, hb1⟩
    have hb2 := hb.trans (hb1.mono hb.size)
    clear hb hb1 hat1 hat
    go_wp2_with fail
    go_ret2
    refine ⟨none, 0, ?_, ?_, hb2⟩
    · rw [HN.out]; rfl
    · rw [HN.out]; exact Owns.nil _ _ _
  | true =>
    rw [h] at HP
    obtain ⟨W, H, rfl, rfl, hW, hH, h9, hs, h8, hc⟩ := pz_yes h
    have HN := Lib.hid (need_yes h)
    have HCC := Lib.hid hc
    have HW := Lib.hid (fun b m c w => pzWith_any (W : Int) H a cs.length cap b m c w)
    have HA := Lib.hid (fun (ds : List Clu) a' m cap' w (hm : ds.length = m) (h8 : ds.length ≤ 8) (hd : ∀ c ∈ ds, cluB W H c = true) hat => pzAll_any W H m cap' a' ds w hW hH h9 hm.symm h8 hd hat)
    have HWO := Lib.hid (fun k w hk hat => pzWithout_any a cs.length cap k cs w rfl hcap hcm hat hk (by omega))
    have HKE := Lib.hid (needK_le W H cs)
    clear h hs hc
    go_enter Try.func13, Try.ntmps13
    go_wp2_with fail
    generalize w.alloc (.cells #[.int .i64 W, .int .i64 H, .slice a cs.length cap] 30) = w0 at *
    refine (HP.out _ hat1).mono ?_
    rintro e wp ⟨rfl, hbp⟩
    have hb2 := hb.trans (hbp.mono hb.size)
    have hGp := (hbp.block _ (block_lt hG)).trans hG
    have hat2 := hat1.later rfl hbp
    clear hb hbp hat1 hat hG
    have f0 := cell_of_block hGp 0
    have f1 := cell_of_block hGp 1
    have f2 := cell_of_block hGp 2
    simp at f0 f1 f2
    go_wp2_with fail
    refine (HA.out cs _ _ _ _ rfl h8 HCC.out hat2).mono ?_
    rintro e w1 ⟨aq, cq, rfl, -, hbq⟩
    have hb1 := hb2.trans (hbq.mono hb2.size)
    have hG1 := (hbq.block _ (block_lt hGp)).trans hGp
    have hat1 := Lib.hid (hat2.later rfl hbq)
    clear hb2 hbq hGp hat2 f0 f1 f2
    have f0 := cell_of_block hG1 0
    have f1 := cell_of_block hG1 1
    have f2 := cell_of_block hG1 2
    simp at f0 f1 f2
    have HG1 := Lib.hid hG1
    have hGl : w.heap.size < w1.heap.size := block_lt hG1
    clear hG1
    go_wp2_with fail
    clear f0 f1 f2
    generalize hGG : w.heap.size = G at HG1 hGl ⊢
    go_loopw [4, 16] (fun v i wr => ∃ k : Nat, k ≤ cs.length ∧ i = .int .i64 k ∧ Owns wr w1.heap.size 3 v (ints (needK W H cs k)) ∧ Below w1.heap.size w1 wr) (fun _ i _ => cs.length - (intOf i).toNat)
    case atStart => exact ⟨0, Nat.zero_le _, rfl, Owns.nil _ _ _, Below.refl _ _⟩
    case round =>
      obtain ⟨k, hk, rfl, hown, hbr⟩ := hrel
      by_cases hlt : k < cs.length
      · have hGr := (hbr.block _ hGl).trans HG1.out
        have hll := HKE.out k
        have hel : (cs.eraseIdx k).length ≤ 8 := Nat.le_trans (List.length_eraseIdx_le cs k) h8
        have hct : ∀ c ∈ cs.eraseIdx k, cluB W H c = true := fun c hx => HCC.out c (List.mem_of_mem_eraseIdx hx)
        have hatr := hat1.out.later rfl hbr
        have hownd : Owns wr.drew w1.heap.size 3 u4 _ := hown
        go_upto_region 8 with fail
        have hS : wr.drew.rangeAt G 0 [.int .i64 W, .int .i64 H, .slice a cs.length cap] := range3 (cell_of_block hGr 0) (cell_of_block hGr 1) (cell_of_block hGr 2)
        refine wp_region_held_drew (S := fun w' => w'.rangeAt G 0 [.int .i64 W, .int .i64 H, .slice a cs.length cap]) (by kernel_rfl) hS (fun hHH => ?_)
        refine wpAnyH_take (i := 0) (v := .agg #[.int .i64 W, .int .i64 H, .slice a cs.length cap]) rfl (by kernel_rfl) (by kernel_rfl) (by kernel_rfl) (fun _ _ _ h => h) (yieldsIf_load_mid (by rfl) 30 _ rfl G 0 rfl [.int .i64 W, .int .i64 H, .slice a cs.length cap] _ (fun _ h => h) Try.underlying30 rfl infPuz) hHH ?_
        try simp only [Act.put, List.setIfInBounds_toArray, List.set_cons_zero, List.set_cons_succ]
        refine wpAnyH_take (i := 1) (v := .pointer (some ⟨G, 2, none⟩)) rfl (by kernel_rfl) (by kernel_rfl) (by kernel_rfl) (fun _ _ _ h => h) (Or.inl ⟨by rfl, fun w' _ => by unfold execOp; go_simp⟩) hHH ?_
        try simp only [Act.put, List.setIfInBounds_toArray, List.set_cons_zero, List.set_cons_succ]
        refine wpAnyH_take (i := 2) (v := .slice a cs.length cap) rfl (by kernel_rfl) (by kernel_rfl) (by kernel_rfl) (fun _ _ _ h => h) (Or.inl ⟨by rfl, fun w' hw => by have p0 := hw 2 _ rfl; unfold execOp; go_simp⟩) hHH ?_
        try simp only [Act.put, List.setIfInBounds_toArray, List.set_cons_zero, List.set_cons_succ]
        refine wpAnyH_take (i := 3) (v := .int .i64 k) rfl (by kernel_rfl) (by kernel_rfl) (by kernel_rfl) (fun _ _ _ h => h) (Or.inl ⟨by rfl, fun w' _ => by unfold execOp; go_simp⟩) hHH ?_
        try simp only [Act.put, List.setIfInBounds_toArray, List.set_cons_zero, List.set_cons_succ]
        refine wpAnyH_take (i := 8) (v := _) rfl (by kernel_rfl) (by kernel_rfl) (by kernel_rfl) (fun _ _ _ h => h) (Or.inl ⟨by rfl, fun _ _ => rfl⟩) hHH ?_
        try simp only [Act.put, List.setIfInBounds_toArray, List.set_cons_zero, List.set_cons_succ]
        refine wpAnyH_ready (rs := [4]) (by kernel_rfl) (by simp) ?_
        refine AllReadyH.cons rfl (fun K hK => ?_) AllReadyH.nil
        go_simp
        refine (HWO.out k _ hlt hatr.drew).mono ?_
        rintro e w3 ⟨v3, rfl, hO3, hb3⟩
        obtain ⟨a3, c3, hv3⟩ := hO3.shape
        subst hv3
        have hat3 := hO3.row.at
        go_wp2_with fail
        have hS3 := range_later hS hb3
        have hown3 := hownd.later hb3
        have hbr3 : Below w1.heap.size w1 w3 := hbr.trans ((ofDrewC hb3).mono hbr.size)
        refine hK.out _ _ hS3 (fun hH3 => ?_)
        clear hK K hHH hb3 hS hownd hO3
        refine wpAnyH_ready (rs := [5]) (by kernel_rfl) (by simp) ?_
        refine AllReadyH.cons rfl (fun K hK => ?_) AllReadyH.nil
        go_simp
        refine (HW.out _ _ _ _).mono ?_
        rintro e w4 ⟨rfl, hb4⟩
        go_wp2_with fail
        have hS4 := range_later hS3 hb4
        have hown4 := hown3.later hb4
        have hat4 := hat3.later rfl hb4
        have hbr4 := hbr3.trans (hb4.mono hbr3.size)
        refine hK.out _ _ hS4 (fun hH4 => ?_)
        clear hK K hH3 hb4 hS3 hown3 hat3 hbr3
        refine wpAnyH_ready (rs := [6]) (by kernel_rfl) (by simp) ?_
        refine AllReadyH.cons rfl (fun K hK => ?_) AllReadyH.nil
        go_simp
        refine (HA.out (cs.eraseIdx k) _ _ _ w4 rfl hel hct hat4).mono ?_
        rintro e w5 ⟨a5, c5, rfl, -, hb5⟩
        go_wp2_with fail
        have hS5 := range_later hS4 hb5
        have hown5 := hown4.later hb5
        have hbr5 := hbr4.trans (hb5.mono hbr4.size)
        refine hK.out _ _ hS5 (fun hH5 => ?_)
        clear hK K hH4 hb5 hS4 hown4 hat4 hbr4
        refine wpAnyH_ready (rs := [7]) (by kernel_rfl) (by simp) ?_
        refine AllReadyH.cons rfl (fun K hK => ?_) AllReadyH.nil
        go_simp
        refine hK.out _ _ hS5 (fun hH6 => ?_)
        clear hK K hH5
        refine wpAnyH_ready (rs := [9]) (by kernel_rfl) (by simp) ?_
        refine AllReadyH.cons rfl (fun K hK => ?_) AllReadyH.nil
        go_simp
        refine hK.out _ _ hS5 (fun hH7 => ?_)
        clear hK K hH6
        refine wpAnyH_done (by kernel_rfl) ?_ _
        cases hd : ndB W H cs k with
        | true =>
          have hdd : (((solC W (W * H) (cs.eraseIdx k)).length : Int) == ((solC W (W * H) cs).length : Int)) = true := hd
          have HK2 : Hid (needK W H cs (k + 1) = needK W H cs k ++ [(k : Int)]) := by rw [Hid, needK, if_pos hd]
          clear hd
          have hs5 := hbr5.size
          go_wp2_with (at_builtin; refine wpList_app1 rfl _ _ _ rfl _ _ _ _ elemInt _ _ _ _ rfl rfl rfl hown5 rfl (by simp; omega) hs5 (by simp; omega) ?_; intro v6 w6 hown6 hb6 hs6)
          rw [ints_snoc, ← HK2.out] at hown6
          go_roundw
          case rel => exact ⟨k + 1, by omega, by go_num, hown6, hbr5.trans hb6⟩
          case measure => simp [intOf]; omega
        | false =>
          have hdd : (((solC W (W * H) (cs.eraseIdx k)).length : Int) == ((solC W (W * H) cs).length : Int)) = false := hd
          have HK2 : Hid (needK W H cs (k + 1) = needK W H cs k) := by rw [Hid, needK, if_neg (by rw [hd]; decide)]
          clear hd
          rw [← HK2.out] at hown5
          go_wp2_with fail
          go_roundw
          case rel => exact ⟨k + 1, by omega, by go_num, hown5, hbr5⟩
          case measure => simp [intOf]; omega
      · obtain rfl : k = cs.length := by omega
        obtain ⟨av, cv, hv⟩ := hown.shape
        subst hv
        subst hGG
        rw [ints_length] at hown ⊢
        go_wp2_with fail
        go_ret2
        refine ⟨av, cv, ?_, ?_, hb1.trans (hbr.mono hb1.size)⟩
        · rw [HN.out]; rfl
        · rw [HN.out]; exact hown.mono hb1.size
theorem core_NeedlessClues (x y : Int) (cs : List Clu) : ∃ (R : Bool) (D : List Int), D.length ≤ 2000000 ∧
    (∀ (a : Option Addr) (n c : Nat) (w : World) (B : Nat), n = cs.length → RowC w B (.slice a n c) cs → Calls Try.prog 13 #[.agg #[.int .i64 x, .int .i64 y, .slice a n c]] w fun e w' => ∃ a' c', e = .returned (.tuple #[.slice a' D.length c', .bool R]) ∧ Owns w' w.heap.size 3 (.slice a' D.length c') (ints D) ∧ Below w.heap.size w w') ∧
    (∀ (a : Option Addr) (n c : Nat) (w : World), n = cs.length → At w a (flatC cs) → Calls Try.prog 14 #[.agg #[.int .i64 x, .int .i64 y, .slice a n c]] w fun e w' => ∃ a' c', e = .returned (.tuple #[.slice a' D.length c', .bool R]) ∧ Owns w' w.heap.size 3 (.slice a' D.length c') (ints D) ∧ Below w.heap.size w w') :=
  ⟨pzB x y cs, needV x y cs, by have := need_len x y cs; omega, fun a n c w B hn hR => sNeed_any x y B a n c cs w hn hR, fun a n c w hn hat => iNeed_any x y a n c cs w hn hat⟩
end Go.Proofs.Ytnnbkbjhombblab
