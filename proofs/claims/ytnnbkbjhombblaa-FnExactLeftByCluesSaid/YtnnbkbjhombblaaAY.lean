/- How many boards fit the first clues: by the program and by the model. -/
import Derived.Test.YtnnbkbjhombblaaAQ
import Derived.Test.YtnnbkbjhombblaaAN
import Derived.Test.YtnnbkbjhombblaaAD
namespace Go.Proofs.Ytnnbkbjhombblaa
open Go.RowKit

/-- How many boards fit the first so many clues. -/
def leftK (W H : Nat) (cs : List Clu) (k : Nat) : List Int := (List.range k).map fun j => ((solC W (W * H) (cs.take j)).length : Int)
theorem leftK_succ (W H : Nat) (cs : List Clu) (k : Nat) : leftK W H cs (k + 1) = leftK W H cs k ++ [((solC W (W * H) (cs.take k)).length : Int)] := by
  rw [leftK, leftK, List.range_succ, List.map_append]; rfl
theorem leftK_len (W H : Nat) (cs : List Clu) (k : Nat) : (leftK W H cs k).length = k := by simp [leftK]
def leftV (x y : Int) (cs : List Clu) : List Int := if pzB x y cs = true then leftK x.toNat y.toNat cs (cs.length + 1) else []
theorem left_no {x y : Int} {cs : List Clu} (h : pzB x y cs = false) : leftV x y cs = [] := by simp [leftV, h]
theorem left_yes {W H : Nat} {cs : List Clu} (h : pzB W H cs = true) : leftV W H cs = leftK W H cs (cs.length + 1) := by simp [leftV, h]
theorem left_len (x y : Int) (cs : List Clu) : (leftV x y cs).length ≤ 9 := by
  rw [leftV]
  split
  · rename_i h
    obtain ⟨W, H, rfl, rfl, _, _, _, _, h8, _⟩ := pz_yes h
    rw [leftK_len]; omega
  · simp
set_option maxRecDepth 100000 in
set_option maxHeartbeats 1600000 in
theorem iLeft_any (x y : Int) (a : Option Addr) (n cap : Nat) (cs : List Clu) (w : World) (hn : n = cs.length) (hat : At w a (flatC cs)) :
    Calls Try.prog 34 #[.agg #[.int .i64 x, .int .i64 y, .slice a n cap]] w fun e w' => ∃ a' c', e = .returned (.tuple #[.slice a' (leftV x y cs).length c', .bool (pzB x y cs)]) ∧ Owns w' w.heap.size 3 (.slice a' (leftV x y cs).length c') (ints (leftV x y cs)) ∧ Below w.heap.size w w' := by
  subst hn
  have hb : Below w.heap.size w (w.alloc (.cells #[.int .i64 x, .int .i64 y, .slice a cs.length cap] 35)) := (Below.refl _ _).alloc (Nat.le_refl _) _
  have hat1 := hat.later rfl hb
  cases h : pzB x y cs with
  | false =>
    have HN := Lib.hid (left_no h)
    have HR := Lib.hid (fun w hat => readP_no x y a cs.length cap cs w rfl hat h)
    clear h
    go_enter Try.func34, Try.ntmps34
    go_wp2_with fail
    refine (HR.out _ hat1).mono ?_
    rintro e w1 ⟨rfl, hb1⟩
    have hb2 := hb.trans (hb1.mono hb.size)
    clear hb hb1 hat1 hat
    go_wp2_with fail
    go_ret2
    refine ⟨none, 0, ?_, ?_, hb2.alloc hb2.size _⟩
    · rw [HN.out]; rfl
    · rw [HN.out]; exact Owns.nil _ _ _
  | true =>
    obtain ⟨W, H, rfl, rfl, hW, hH, h9, hs, h8, hc⟩ := pz_yes h
    have HN := Lib.hid (left_yes h)
    have HR := Lib.hid (fun w hat => readP_yes W H a cs.length cap cs w hW hH hs rfl h8 hc hat)
    have HC := Lib.hid (fun n' cap' a' (ds : List Clu) w (h8 : ds.length ≤ 8) (hd : ∀ c ∈ ds, cluB W H c = true) (hn : n' = ds.length) hat => countSol_any W H n' cap' a' ds w hW hH h9 hn (by omega) hd hat)
    have HCC := Lib.hid hc
    have HP := Lib.hid (fun B n' cap' a' k w hR hmn => part_any (W : Int) H B n' cap' 0 k a' cs w hR (Nat.zero_le k) hmn)
    clear h hs hc
    go_enter Try.func34, Try.ntmps34
    go_wp2_with fail
    refine (HR.out _ hat1).mono ?_
    rintro e w1 ⟨v1, rfl, hR1, hb1⟩
    obtain ⟨a1, c1, hv⟩ := hR1.shape
    subst hv
    have hb2 := hb.trans (hb1.mono hb.size)
    have hbx : Below w1.heap.size w1 (w1.alloc (.cells #[.int .i64 W, .int .i64 H, .slice a1 cs.length c1] 35)) := (Below.refl _ _).alloc (Nat.le_refl _) _
    have hX := heap_alloc_new w1 (.cells #[.int .i64 W, .int .i64 H, .slice a1 cs.length c1] 35)
    have hR2 := hR1.below hbx
    have hb3 := hb2.trans (hbx.mono hb2.size)
    go_upto_region 2 with fail
    clear hb hb1 hat1 hat hbx hR1
    generalize w1.alloc (.cells #[.int .i64 W, .int .i64 H, .slice a1 cs.length c1] 35) = w2 at *
    have hs1 := hb2.size
    clear hb2
    generalize w1.heap.size = X at *
    have f0 := cell_of_block hX 0
    have f1 := cell_of_block hX 1
    have f2 := cell_of_block hX 2
    simp at f0 f1 f2
    have HX := Lib.hid hX
    have hXl : X < w2.heap.size := block_lt hX
    clear hX
    go_wp2_with fail
    go_loopw [6, 19] (fun v i wr => ∃ k : Nat, k ≤ cs.length + 1 ∧ i = .int .i64 k ∧ Owns wr w2.heap.size 3 v (ints (leftK W H cs k)) ∧ Below w2.heap.size w2 wr) (fun _ i _ => cs.length + 1 - (intOf i).toNat)
    case atStart => exact ⟨0, Nat.zero_le _, rfl, Owns.nil _ _ _, Below.refl _ _⟩
    case round =>
      clear f0 f1 f2
      obtain ⟨k, hk, rfl, hown, hbr⟩ := hrel
      by_cases hlt : k < cs.length + 1
      · have hXr := (hbr.block _ hXl).trans HX.out
        have hRr := hR2.below hbr
        have HK := Lib.hid (leftK_succ W H cs k)
        have hll := leftK_len W H cs k
        have hdt : Hid ((cs.drop 0).take (k - 0) = cs.take k) := rfl
        have hkl : (cs.take k).length = k := by rw [List.length_take]; omega
        have hct : ∀ c ∈ cs.take k, cluB W H c = true := fun c hx => HCC.out c (List.mem_of_mem_take hx)
        have HKL := Lib.hid hkl
        clear hkl
        have hki : (k : Int) < (cs.length : Int) + 1 := by omega
        have f0 := cell_of_block hXr 0
        have f1 := cell_of_block hXr 1
        have f2 := cell_of_block hXr 2
        simp at f0 f1 f2
        clear hXr
        go_wp2_with fail
        refine (HP.out _ _ _ _ k wr hRr (by omega)).mono ?_
        rintro e w3 ⟨a', rfl, hb4, hat1, -⟩
        rw [hdt.out] at hat1
        have hown1 := hown.later hb4
        have hbr1 := hbr.trans (hb4.mono hbr.size)
        simp only [Nat.sub_zero]
        clear hRr hb4 hown hbr f0 f1 f2 hdt
        go_wp2_with fail
        refine (HC.out _ _ _ (cs.take k) w3 (by have := HKL.out; omega) hct HKL.out.symm hat1).mono ?_
        rintro e w4 ⟨rfl, hb4⟩
        have hown2 := hown1.later hb4
        have hbr2 := hbr1.trans (hb4.mono hbr1.size)
        have hs2 := hbr2.size
        clear hb4 hown1 hbr1 hat1
        go_wp2_with (at_builtin; refine wpList_app1 rfl _ _ _ rfl _ _ _ _ elemInt _ _ _ _ rfl rfl rfl hown2 rfl (by simp; omega) hs2 (by simp; omega) ?_; intro v1 w5 hown3 hb5 hs3)
        rw [ints_snoc, ← HK.out] at hown3
        go_roundw
        case rel => exact ⟨k + 1, by omega, by go_num, hown3, hbr2.trans hb5⟩
        case measure => simp [intOf]; omega
      · obtain rfl : k = cs.length + 1 := by omega
        have hki : ¬ (((cs.length + 1 : Nat) : Int) < (cs.length : Int) + 1) := by omega
        obtain ⟨a3, c3, hv⟩ := hown.shape
        subst hv
        rw [ints_length] at hown ⊢
        go_wp2_with fail
        go_ret2
        refine ⟨a3, c3, ?_, ?_, hb3.trans (hbr.mono hb3.size)⟩
        · rw [HN.out]; rfl
        · rw [HN.out]; exact hown.mono hb3.size
theorem wp_app1k {o : Oper} {a : Act} {K : Act → World → Prop} {Q : Exit → Act → World → Prop} {w : World} (hgd : o.guard = none) (s x : Operand)
    (ho : o.op = .call { callee := .builtin .append, args := #[s, x], argTypes := #[51, 51] })
    (B : Nat) (v : Value) (xs : List Value) (x0 : Int) (w0 : World) (hw : w = w0.alloc (.cells #[.int .i64 x0] 3))
    (hs : a.eval s = v) (hown : Owns w0 B 3 v xs) (hx : a.eval x = .slice (some ⟨w0.heap.size, 0, none⟩) 1 1)
    (hlen : xs.length ≤ 1000000) (hB : B ≤ w0.heap.size)
    (h : ∀ v' w', Owns w' B 3 v' (xs ++ [.int .i64 x0]) → Below B w0 w' → (∀ b, b < w0.heap.size → v.ownBlock ≠ some b → w'.heap[b]? = w0.heap[b]?) → K (a.put o.dst v') w') : o.wp Try.prog a w K Q := by
  subst hw
  obtain ⟨i, hi, hz, hsz, hby⟩ := elemInt.info
  refine wp_append_own _ s x _ ho B 3 i _ 1 8 elemInt.und hi hz hsz hby elemInt.one (by decide) v xs.length xs hs (World.ownsRow.alloc hown _) ⟨w0.heap.size, 0, none⟩ 1 1 [.int .i64 x0] hx rfl ?_ ?_ ?_ (by omega) (by simp; omega) ?_
  · exact cell_one_new _ _ _
  · intro u hu; rw [List.mem_singleton.1 hu]; rfl
  · unfold maxLen; omega
  · intro v' w' h1 h2 _
    refine h v' w' (by simpa [Owns] using h1) ?_ fun b hb hne => ?_
    · exact ((Below.refl B w0).alloc hB _).grown h2 (by simp; omega) (fun k hk => (Owns.lt hown k hk).1)
    · rw [h2.block b (by simp; omega) (fun e => hne e.symm), Below.heap_alloc _ _ _ hb]
set_option maxRecDepth 100000 in
set_option maxHeartbeats 6400000 in
theorem sLeft_any (x y : Int) (B : Nat) (a : Option Addr) (n cap : Nat) (cs : List Clu) (w : World) (hn : n = cs.length) (hR : RowC w B (.slice a n cap) cs) :
    Calls Try.prog 33 #[.agg #[.int .i64 x, .int .i64 y, .slice a n cap]] w fun e w' => ∃ a' c', e = .returned (.tuple #[.slice a' (leftV x y cs).length c', .bool (pzB x y cs)]) ∧ Owns w' w.heap.size 3 (.slice a' (leftV x y cs).length c') (ints (leftV x y cs)) ∧ Below w.heap.size w w' := by
  subst hn
  have hat := hR.at
  have hcap := hR.cap.1
  have hcm := hR.cap.2
  have hsome : a = none ∧ cap = 0 ∨ ∃ g, a = some ⟨g, 0, none⟩ := by
    obtain ⟨a1, cap1, hv, h1, h2, h3, h4⟩ := hR
    obtain ⟨rfl, _, rfl⟩ : a = a1 ∧ cs.length = cs.length ∧ cap = cap1 := by simpa using hv
    cases a with
    | none => exact .inl ⟨rfl, h3 rfl⟩
    | some ad => obtain ⟨g, rfl, _⟩ := h4 ad rfl; exact .inr ⟨g, rfl⟩
  have hb : Below w.heap.size w (w.alloc (.cells #[.int .i64 x, .int .i64 y, .slice a cs.length cap] 35)) := (Below.refl _ _).alloc (Nat.le_refl _) _
  have hat1 := hat.later rfl hb
  have HP := Lib.hid (fun w hat => pzGood_any x y a cs.length cap cs w rfl hat)
  have hG := heap_alloc_new w (.cells #[.int .i64 x, .int .i64 y, .slice a cs.length cap] 35)
  clear hR
  cases h : pzB x y cs with
  | false =>
    have HN := Lib.hid (left_no h)
    rw [h] at HP
    clear h hG
    go_enter Try.func33, Try.ntmps33
    go_wp2_with fail
    refine (HP.out _ hat1).mono ?_
    rintro e w1 ⟨rfl, hb1⟩
    have hb2 := hb.trans (hb1.mono hb.size)
    clear hb hb1 hat1 hat
    go_wp2_with fail
    go_ret2
    refine ⟨none, 0, ?_, ?_, hb2⟩
    · rw [HN.out]; rfl
    · rw [HN.out]; exact Owns.nil _ _ _
  | true =>
    rw [h] at HP
    obtain ⟨W, H, rfl, rfl, hW, hH, h9, hs, h8, hc⟩ := pz_yes h
    have HN := Lib.hid (left_yes h)
    have HCC := Lib.hid hc
    have HW := Lib.hid (fun b m c w => pzWith_any (W : Int) H a cs.length cap b m c w)
    have HA := Lib.hid (fun (ds : List Clu) a' m cap' w (hm : ds.length = m) (h8 : ds.length ≤ 8) (hd : ∀ c ∈ ds, cluB W H c = true) hat => pzAll_any W H m cap' a' ds w hW hH h9 hm.symm h8 hd hat)
    clear h hs hc
    go_enter Try.func33, Try.ntmps33
    go_wp2_with fail
    generalize w.alloc (.cells #[.int .i64 W, .int .i64 H, .slice a cs.length cap] 35) = w0 at *
    refine (HP.out _ hat1).mono ?_
    rintro e w1 ⟨rfl, hb1⟩
    have hb2 := hb.trans (hb1.mono hb.size)
    have hG1 := (hb1.block _ (block_lt hG)).trans hG
    have hat2 := hat1.later rfl hb1
    clear hb hb1 hat1 hat hG
    have HTK : Hid (∀ k wr, Below w1.heap.size w1 wr → At wr a (flatC (cs.take k))) := fun k wr hbr => by
      have h2 := hat2.later rfl hbr
      intro j hj
      have hj2 : j < (flatC cs).length := by rw [flatC_length] at hj ⊢; rw [List.length_take] at hj; omega
      obtain ⟨b, off, h3, h4⟩ := h2 j hj2
      refine ⟨b, off, h3, ?_⟩
      rw [h4]
      congr 1
      have e : flatC cs = flatC (cs.take k) ++ flatC (cs.drop k) := by rw [← flatC_append, List.take_append_drop]
      simp only [e]
      exact List.getElem_append_left hj
    have f0 := cell_of_block hG1 0
    have f1 := cell_of_block hG1 1
    have f2 := cell_of_block hG1 2
    simp at f0 f1 f2
    have HG1 := Lib.hid hG1
    have hGl : w.heap.size < w1.heap.size := block_lt hG1
    clear hG1 hat2
    go_wp2_with fail
    clear f0 f1 f2
    generalize hGG : w.heap.size = G at HG1 hGl ⊢
    rcases hsome with ⟨rfl, rfl⟩ | ⟨g, rfl⟩
    · skip
      go_loopw [4, 5] (fun v i wr => ∃ k : Nat, k ≤ cs.length + 1 ∧ i = .int .i64 k ∧ Owns wr w1.heap.size 3 v (ints (leftK W H cs k)) ∧ Below w1.heap.size w1 wr) (fun _ i _ => cs.length + 1 - (intOf i).toNat)
      case atStart => exact ⟨0, Nat.zero_le _, rfl, Owns.nil _ _ _, Below.refl _ _⟩
      case round =>
        obtain ⟨k, hk, rfl, hown, hbr⟩ := hrel
        have hGr := (hbr.block _ hGl).trans HG1.out
        have f0 := cell_of_block hGr 0
        have f1 := cell_of_block hGr 1
        have f2 := cell_of_block hGr 2
        simp at f0 f1 f2
        by_cases hlt : k < cs.length + 1
        · have HK := Lib.hid (leftK_succ W H cs k)
          have hll := leftK_len W H cs k
          have HKL : Hid ((cs.take k).length = k ∧ (cs.take k).length ≤ 8) := ⟨by rw [List.length_take]; omega, by rw [List.length_take]; omega⟩
          have hct : ∀ c ∈ cs.take k, cluB W H c = true := fun c hx => HCC.out c (List.mem_of_mem_take hx)
          have hatk := HTK.out k wr hbr
          have hki : (k : Int) ≤ (cs.length : Int) := by omega
          have hkn : k ≤ cs.length := by omega
          have hkc : k ≤ 0 := by omega
          have hkd : ¬ (0 < k) := by omega
          have hownd : Owns wr.drew w1.heap.size 3 u4 _ := hown
          go_upto_region 7 with fail
          have hS : wr.drew.rangeAt G 0 [.int .i64 W, .int .i64 H, .slice none cs.length 0] := range3 (cell_of_block hGr 0) (cell_of_block hGr 1) (cell_of_block hGr 2)
          refine wp_region_held_drew (S := fun w' => w'.rangeAt G 0 [.int .i64 W, .int .i64 H, .slice none cs.length 0]) (by kernel_rfl) hS (fun hHH => ?_)
          refine wpAnyH_take (i := 0) (v := u4) rfl (by kernel_rfl) (by kernel_rfl) (by kernel_rfl) (fun _ _ _ h => h) (Or.inl ⟨by rfl, fun _ _ => rfl⟩) hHH ?_
          try simp only [Act.put, List.setIfInBounds_toArray, List.set_cons_zero, List.set_cons_succ]
          refine wpAnyH_take (i := 1) (v := .agg #[.int .i64 W, .int .i64 H, .slice none cs.length 0]) rfl (by kernel_rfl) (by kernel_rfl) (by kernel_rfl) (fun _ _ _ h => h) (yieldsIf_load_mid (by rfl) 35 _ rfl G 0 rfl [.int .i64 W, .int .i64 H, .slice none cs.length 0] _ (fun _ h => h) Try.underlying35 rfl infPuz) hHH ?_
          try simp only [Act.put, List.setIfInBounds_toArray, List.set_cons_zero, List.set_cons_succ]
          refine wpAnyH_take (i := 2) (v := .pointer (some ⟨G, 2, none⟩)) rfl (by kernel_rfl) (by kernel_rfl) (by kernel_rfl) (fun _ _ _ h => h) (Or.inl ⟨by rfl, fun w' _ => by unfold execOp; go_simp⟩) hHH ?_
          try simp only [Act.put, List.setIfInBounds_toArray, List.set_cons_zero, List.set_cons_succ]
          refine wpAnyH_take (i := 3) (v := .slice none cs.length 0) rfl (by kernel_rfl) (by kernel_rfl) (by kernel_rfl) (fun _ _ _ h => h) (Or.inl ⟨by rfl, fun w' hw => by have p0 := hw 2 _ rfl; unfold execOp; go_simp⟩) hHH ?_
          try simp only [Act.put, List.setIfInBounds_toArray, List.set_cons_zero, List.set_cons_succ]
          refine wpAnyH_take (i := 4) (v := .int .i64 k) rfl (by kernel_rfl) (by kernel_rfl) (by kernel_rfl) (fun _ _ _ h => h) (Or.inl ⟨by rfl, fun w' _ => by unfold execOp; go_simp⟩) hHH ?_
          try simp only [Act.put, List.setIfInBounds_toArray, List.set_cons_zero, List.set_cons_succ]
          refine wpAnyH_take (i := 5) (v := .slice none k 0) rfl (by kernel_rfl) (by kernel_rfl) (by kernel_rfl) (fun _ _ _ h => h) (Or.inl ⟨by rfl, fun w' _ => by have hk0 : k = 0 := (by omega); subst hk0; unfold execOp; go_simp⟩) hHH ?_
          try simp only [Act.put, List.setIfInBounds_toArray, List.set_cons_zero, List.set_cons_succ]
          refine wpAnyH_ready (rs := [6]) (by kernel_rfl) (by simp) ?_
          refine AllReadyH.cons rfl (fun K hK => ?_) AllReadyH.nil
          go_simp
          refine (HW.out _ _ _ _).mono ?_
          rintro e w3 ⟨rfl, hb3⟩
          go_wp2_with fail
          have hS3 := range_later hS hb3
          have hat3 := hatk.drew.later rfl hb3
          have hown3 := hownd.later hb3
          refine hK.out _ _ hS3 (fun hH3 => ?_)
          clear hK K hHH
          refine wpAnyH_ready (rs := [7]) (by kernel_rfl) (by simp) ?_
          refine AllReadyH.cons rfl (fun K hK => ?_) AllReadyH.nil
          go_simp
          refine (HA.out (cs.take k) _ _ _ w3 HKL.out.1 HKL.out.2 hct hat3).mono ?_
          rintro e w4 ⟨a4, c4, rfl, hown4, hb4⟩
          go_wp2_with fail
          have hS4 := range_later hS3 hb4
          have hown5 := hown3.later hb4
          have hbr4 : Below w1.heap.size w1 w4 := (hbr.trans ((ofDrewC hb3).mono hbr.size)).trans (hb4.mono (Nat.le_trans hbr.size (ofDrewC hb3).size))
          refine hK.out _ _ hS4 (fun hH4 => ?_)
          clear hK K hH3
          clear hown4 hb3 hb4 hat3 hatk hS3 hown3
          refine wpAnyH_ready (rs := [8]) (by kernel_rfl) (by simp) ?_
          refine AllReadyH.cons rfl (fun K hK => ?_) AllReadyH.nil
          go_simp
          refine hK.out _ _ hS4 (fun hH5 => ?_)
          clear hK K hH4
          refine wpAnyH_ready (rs := [9]) (by kernel_rfl) (by simp) ?_
          refine AllReadyH.cons rfl (fun K hK => ?_) AllReadyH.nil
          go_simp
          have hS5 := World.rangeAt_alloc hS4 (.cells #[.int .i64 ((solC W (W * H) (cs.take k)).length : Nat)] 3)
          refine hK.out _ _ hS5 (fun hH6 => ?_)
          clear hK K hH5
          refine wpAnyH_ready (rs := [10]) (by kernel_rfl) (by simp) ?_
          refine AllReadyH.cons rfl (fun K hK => ?_) AllReadyH.nil
          rw [if_pos (by rfl)]
          refine wp_app1k rfl _ _ rfl w1.heap.size _ _ _ w4 rfl rfl hown5 rfl (by simp; omega) hbr4.size ?_
          intro v6 w6 hown6 hb6 hk6
          have hS6 := range_heap hS4 (hk6 G (Nat.lt_of_lt_of_le hGl hbr4.size) (fun e => absurd ((hown5.lt _ e).1) (by omega)))
          refine hK.out _ _ hS6 (fun hH7 => ?_)
          clear hK K hH6
          refine wpAnyH_ready (rs := [11]) (by kernel_rfl) (by simp) ?_
          refine AllReadyH.cons rfl (fun K hK => ?_) AllReadyH.nil
          go_simp
          refine hK.out _ _ hS6 (fun hH8 => ?_)
          clear hK K hH7
          refine wpAnyH_done (by kernel_rfl) ?_ _
          rw [ints_snoc, ← HK.out] at hown6
          go_wp2_with fail
          go_roundw
          case rel => exact ⟨k + 1, by omega, by go_num, hown6, hbr4.trans hb6⟩
          case measure => simp [intOf]; omega
        · obtain rfl : k = cs.length + 1 := by omega
          have hki : ¬ (((cs.length + 1 : Nat) : Int) ≤ (cs.length : Int)) := by omega
          obtain ⟨av, cv, hv⟩ := hown.shape
          subst hv
          subst hGG
          rw [ints_length] at hown ⊢
          go_wp2_with fail
          go_ret2
          refine ⟨av, cv, ?_, ?_, hb2.trans (hbr.mono hb2.size)⟩
          · rw [HN.out]; rfl
          · rw [HN.out]; exact hown.mono hb2.size
    · skip
      go_loopw [4, 5] (fun v i wr => ∃ k : Nat, k ≤ cs.length + 1 ∧ i = .int .i64 k ∧ Owns wr w1.heap.size 3 v (ints (leftK W H cs k)) ∧ Below w1.heap.size w1 wr) (fun _ i _ => cs.length + 1 - (intOf i).toNat)
      case atStart => exact ⟨0, Nat.zero_le _, rfl, Owns.nil _ _ _, Below.refl _ _⟩
      case round =>
        obtain ⟨k, hk, rfl, hown, hbr⟩ := hrel
        have hGr := (hbr.block _ hGl).trans HG1.out
        have f0 := cell_of_block hGr 0
        have f1 := cell_of_block hGr 1
        have f2 := cell_of_block hGr 2
        simp at f0 f1 f2
        by_cases hlt : k < cs.length + 1
        · have HK := Lib.hid (leftK_succ W H cs k)
          have hll := leftK_len W H cs k
          have HKL : Hid ((cs.take k).length = k ∧ (cs.take k).length ≤ 8) := ⟨by rw [List.length_take]; omega, by rw [List.length_take]; omega⟩
          have hct : ∀ c ∈ cs.take k, cluB W H c = true := fun c hx => HCC.out c (List.mem_of_mem_take hx)
          have hatk := HTK.out k wr hbr
          have hki : (k : Int) ≤ (cs.length : Int) := by omega
          have hkn : k ≤ cs.length := by omega
          have hkc : k ≤ cap := by omega
          have hkd : ¬ (cap < k) := by omega
          have hownd : Owns wr.drew w1.heap.size 3 u4 _ := hown
          go_upto_region 7 with fail
          have hS : wr.drew.rangeAt G 0 [.int .i64 W, .int .i64 H, .slice (some ⟨g, 0, none⟩) cs.length cap] := range3 (cell_of_block hGr 0) (cell_of_block hGr 1) (cell_of_block hGr 2)
          refine wp_region_held_drew (S := fun w' => w'.rangeAt G 0 [.int .i64 W, .int .i64 H, .slice (some ⟨g, 0, none⟩) cs.length cap]) (by kernel_rfl) hS (fun hHH => ?_)
          refine wpAnyH_take (i := 0) (v := u4) rfl (by kernel_rfl) (by kernel_rfl) (by kernel_rfl) (fun _ _ _ h => h) (Or.inl ⟨by rfl, fun _ _ => rfl⟩) hHH ?_
          try simp only [Act.put, List.setIfInBounds_toArray, List.set_cons_zero, List.set_cons_succ]
          refine wpAnyH_take (i := 1) (v := .agg #[.int .i64 W, .int .i64 H, .slice (some ⟨g, 0, none⟩) cs.length cap]) rfl (by kernel_rfl) (by kernel_rfl) (by kernel_rfl) (fun _ _ _ h => h) (yieldsIf_load_mid (by rfl) 35 _ rfl G 0 rfl [.int .i64 W, .int .i64 H, .slice (some ⟨g, 0, none⟩) cs.length cap] _ (fun _ h => h) Try.underlying35 rfl infPuz) hHH ?_
          try simp only [Act.put, List.setIfInBounds_toArray, List.set_cons_zero, List.set_cons_succ]
          refine wpAnyH_take (i := 2) (v := .pointer (some ⟨G, 2, none⟩)) rfl (by kernel_rfl) (by kernel_rfl) (by kernel_rfl) (fun _ _ _ h => h) (Or.inl ⟨by rfl, fun w' _ => by unfold execOp; go_simp⟩) hHH ?_
          try simp only [Act.put, List.setIfInBounds_toArray, List.set_cons_zero, List.set_cons_succ]
          refine wpAnyH_take (i := 3) (v := .slice (some ⟨g, 0, none⟩) cs.length cap) rfl (by kernel_rfl) (by kernel_rfl) (by kernel_rfl) (fun _ _ _ h => h) (Or.inl ⟨by rfl, fun w' hw => by have p0 := hw 2 _ rfl; unfold execOp; go_simp⟩) hHH ?_
          try simp only [Act.put, List.setIfInBounds_toArray, List.set_cons_zero, List.set_cons_succ]
          refine wpAnyH_take (i := 4) (v := .int .i64 k) rfl (by kernel_rfl) (by kernel_rfl) (by kernel_rfl) (fun _ _ _ h => h) (Or.inl ⟨by rfl, fun w' _ => by unfold execOp; go_simp⟩) hHH ?_
          try simp only [Act.put, List.setIfInBounds_toArray, List.set_cons_zero, List.set_cons_succ]
          refine wpAnyH_take (i := 5) (v := .slice (some ⟨g, 0, none⟩) k cap) rfl (by kernel_rfl) (by kernel_rfl) (by kernel_rfl) (fun _ _ _ h => h) (Or.inl ⟨by rfl, fun w' _ => by unfold execOp; go_simp⟩) hHH ?_
          try simp only [Act.put, List.setIfInBounds_toArray, List.set_cons_zero, List.set_cons_succ]
          refine wpAnyH_ready (rs := [6]) (by kernel_rfl) (by simp) ?_
          refine AllReadyH.cons rfl (fun K hK => ?_) AllReadyH.nil
          go_simp
          refine (HW.out _ _ _ _).mono ?_
          rintro e w3 ⟨rfl, hb3⟩
          go_wp2_with fail
          have hS3 := range_later hS hb3
          have hat3 := hatk.drew.later rfl hb3
          have hown3 := hownd.later hb3
          refine hK.out _ _ hS3 (fun hH3 => ?_)
          clear hK K hHH
          refine wpAnyH_ready (rs := [7]) (by kernel_rfl) (by simp) ?_
          refine AllReadyH.cons rfl (fun K hK => ?_) AllReadyH.nil
          go_simp
          refine (HA.out (cs.take k) _ _ _ w3 HKL.out.1 HKL.out.2 hct hat3).mono ?_
          rintro e w4 ⟨a4, c4, rfl, hown4, hb4⟩
          go_wp2_with fail
          have hS4 := range_later hS3 hb4
          have hown5 := hown3.later hb4
          have hbr4 : Below w1.heap.size w1 w4 := (hbr.trans ((ofDrewC hb3).mono hbr.size)).trans (hb4.mono (Nat.le_trans hbr.size (ofDrewC hb3).size))
          refine hK.out _ _ hS4 (fun hH4 => ?_)
          clear hK K hH3
          clear hown4 hb3 hb4 hat3 hatk hS3 hown3
          refine wpAnyH_ready (rs := [8]) (by kernel_rfl) (by simp) ?_
          refine AllReadyH.cons rfl (fun K hK => ?_) AllReadyH.nil
          go_simp
          refine hK.out _ _ hS4 (fun hH5 => ?_)
          clear hK K hH4
          refine wpAnyH_ready (rs := [9]) (by kernel_rfl) (by simp) ?_
          refine AllReadyH.cons rfl (fun K hK => ?_) AllReadyH.nil
          go_simp
          have hS5 := World.rangeAt_alloc hS4 (.cells #[.int .i64 ((solC W (W * H) (cs.take k)).length : Nat)] 3)
          refine hK.out _ _ hS5 (fun hH6 => ?_)
          clear hK K hH5
          refine wpAnyH_ready (rs := [10]) (by kernel_rfl) (by simp) ?_
          refine AllReadyH.cons rfl (fun K hK => ?_) AllReadyH.nil
          rw [if_pos (by rfl)]
          refine wp_app1k rfl _ _ rfl w1.heap.size _ _ _ w4 rfl rfl hown5 rfl (by simp; omega) hbr4.size ?_
          intro v6 w6 hown6 hb6 hk6
          have hS6 := range_heap hS4 (hk6 G (Nat.lt_of_lt_of_le hGl hbr4.size) (fun e => absurd ((hown5.lt _ e).1) (by omega)))
          refine hK.out _ _ hS6 (fun hH7 => ?_)
          clear hK K hH6
          refine wpAnyH_ready (rs := [11]) (by kernel_rfl) (by simp) ?_
          refine AllReadyH.cons rfl (fun K hK => ?_) AllReadyH.nil
          go_simp
          refine hK.out _ _ hS6 (fun hH8 => ?_)
          clear hK K hH7
          refine wpAnyH_done (by kernel_rfl) ?_ _
          rw [ints_snoc, ← HK.out] at hown6
          go_wp2_with fail
          go_roundw
          case rel => exact ⟨k + 1, by omega, by go_num, hown6, hbr4.trans hb6⟩
          case measure => simp [intOf]; omega
        · obtain rfl : k = cs.length + 1 := by omega
          have hki : ¬ (((cs.length + 1 : Nat) : Int) ≤ (cs.length : Int)) := by omega
          obtain ⟨av, cv, hv⟩ := hown.shape
          subst hv
          subst hGG
          rw [ints_length] at hown ⊢
          go_wp2_with fail
          go_ret2
          refine ⟨av, cv, ?_, ?_, hb2.trans (hbr.mono hb2.size)⟩
          · rw [HN.out]; rfl
          · rw [HN.out]; exact hown.mono hb2.size
theorem core_LeftByClues (x y : Int) (cs : List Clu) : ∃ (R : Bool) (D : List Int), D.length ≤ 2000000 ∧
    (∀ (a : Option Addr) (n c : Nat) (w : World) (B : Nat), n = cs.length → RowC w B (.slice a n c) cs → Calls Try.prog 33 #[.agg #[.int .i64 x, .int .i64 y, .slice a n c]] w fun e w' => ∃ a' c', e = .returned (.tuple #[.slice a' D.length c', .bool R]) ∧ Owns w' w.heap.size 3 (.slice a' D.length c') (ints D) ∧ Below w.heap.size w w') ∧
    (∀ (a : Option Addr) (n c : Nat) (w : World), n = cs.length → At w a (flatC cs) → Calls Try.prog 34 #[.agg #[.int .i64 x, .int .i64 y, .slice a n c]] w fun e w' => ∃ a' c', e = .returned (.tuple #[.slice a' D.length c', .bool R]) ∧ Owns w' w.heap.size 3 (.slice a' D.length c') (ints D) ∧ Below w.heap.size w w') :=
  ⟨pzB x y cs, leftV x y cs, by have := left_len x y cs; omega, fun a n c w B hn hR => sLeft_any x y B a n c cs w hn hR, fun a n c w hn hat => iLeft_any x y a n c cs w hn hat⟩
end Go.Proofs.Ytnnbkbjhombblaa
