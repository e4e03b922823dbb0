/- The texts of all solutions: by the program and by the model. -/
import Derived.Test.YtnnbkbjhombblaaAP
namespace Go.Proofs.Ytnnbkbjhombblaa
open Go.RowKit

/-- The texts of the solutions. -/
def solV (x y : Int) (cs : List Clu) : List (List UInt8) := if pzB x y cs = true then (solC x.toNat (x.toNat * y.toNat) cs).map fun u => textM u x.toNat y.toNat else []
theorem solV_no {x y : Int} {cs : List Clu} (h : pzB x y cs = false) : solV x y cs = [] := by simp [solV, h]
theorem solV_yes {W H : Nat} {cs : List Clu} (h : pzB W H cs = true) : solV W H cs = (solC W (W * H) cs).map fun u => textM u W H := by simp [solV, h]
theorem solV_len (x y : Int) (cs : List Clu) : (solV x y cs).length ≤ 512 := by
  rw [solV]
  split
  · rename_i h
    obtain ⟨W, H, rfl, rfl, _, _, h9, _⟩ := pz_yes h
    rw [List.length_map]
    exact solC_le W (W * H) h9 cs
  · simp
set_option maxRecDepth 100000 in
set_option maxHeartbeats 1600000 in
theorem sSolutions_any (x y : Int) (B : Nat) (a : Option Addr) (n cap : Nat) (cs : List Clu) (w : World) (hn : n = cs.length) (hR : RowC w B (.slice a n cap) cs) :
    Calls Try.prog 23 #[.agg #[.int .i64 x, .int .i64 y, .slice a n cap]] w fun e w' => ∃ a' c', e = .returned (.tuple #[.slice a' (solV x y cs).length c', .bool (pzB x y cs)]) ∧ Owns w' w.heap.size 9 (.slice a' (solV x y cs).length c') (txts (solV x y cs)) ∧ Below w.heap.size w w' := by
  subst hn
  have hat := hR.at
  have hb : Below w.heap.size w (w.alloc (.cells #[.int .i64 x, .int .i64 y, .slice a cs.length cap] 35)) := (Below.refl _ _).alloc (Nat.le_refl _) _
  have hat1 := hat.later rfl hb
  have HP := Lib.hid (fun w hat => pzGood_any x y a cs.length cap cs w rfl hat)
  have hG := heap_alloc_new w (.cells #[.int .i64 x, .int .i64 y, .slice a cs.length cap] 35)
  clear hR
  cases h : pzB x y cs with
  | false =>
    have HN := Lib.hid (solV_no h)
    rw [h] at HP
    clear h hG
    go_enter Try.func23, Try.ntmps23
    go_wp2_with fail
    refine (HP.out _ hat1).mono ?_
    rintro e w1 ⟨rfl, hb1⟩
    have hb2 := hb.trans (hb1.mono hb.size)
    clear hb hb1 hat1 hat
    go_wp2_with fail
    go_ret2
    refine ⟨none, 0, ?_, ?_, hb2⟩
    · rw [HN.out]; rfl
    · rw [HN.out]; exact Owns.nil _ _ _
  | true =>
    rw [h] at HP
    obtain ⟨W, H, rfl, rfl, hW, hH, h9, hs, h8, hc⟩ := pz_yes h
    have HN := Lib.hid (solV_yes h)
    have hll : ((solC W (W * H) cs).map fun u => textM u W H).length = (solC W (W * H) cs).length := List.length_map _
    have HLL := Lib.hid hll
    have HA := Lib.hid (fun w hat => pzAll_any W H cs.length cap a cs w hW hH h9 rfl h8 hc hat)
    clear h hs hc hll
    go_enter Try.func23, Try.ntmps23
    go_wp2_with fail
    generalize w.alloc (.cells #[.int .i64 W, .int .i64 H, .slice a cs.length cap] 35) = w0 at *
    refine (HP.out _ hat1).mono ?_
    rintro e w1 ⟨rfl, hb1⟩
    have hb2 := hb.trans (hb1.mono hb.size)
    have hG1 := (hb1.block _ (block_lt hG)).trans hG
    have hat2 := hat1.later rfl hb1
    clear hb hb1 hat1 hat hG
    have f0 := cell_of_block hG1 0
    have f1 := cell_of_block hG1 1
    have f2 := cell_of_block hG1 2
    simp at f0 f1 f2
    clear hG1
    go_wp2_with fail
    refine (HA.out _ hat2).mono ?_
    rintro e w2 ⟨a2, c2, rfl, hown, hb3⟩
    have hb4 := hb2.trans (hb3.mono hb2.size)
    have hown2 := hown.mono hb2.size
    clear hb2 hb3 hat2 hown f0 f1 f2
    go_wp2_with fail
    go_ret2
    refine ⟨a2, c2, ?_, ?_, hb4⟩
    · rw [HN.out, HLL.out]; rfl
    · rw [HN.out, HLL.out]; exact hown2
set_option maxRecDepth 100000 in
set_option maxHeartbeats 3200000 in
theorem iSolutions_any (x y : Int) (a : Option Addr) (n cap : Nat) (cs : List Clu) (w : World) (hn : n = cs.length) (hat : At w a (flatC cs)) :
    Calls Try.prog 24 #[.agg #[.int .i64 x, .int .i64 y, .slice a n cap]] w fun e w' => ∃ a' c', e = .returned (.tuple #[.slice a' (solV x y cs).length c', .bool (pzB x y cs)]) ∧ Owns w' w.heap.size 9 (.slice a' (solV x y cs).length c') (txts (solV x y cs)) ∧ Below w.heap.size w w' := by
  subst hn
  have hb : Below w.heap.size w (w.alloc (.cells #[.int .i64 x, .int .i64 y, .slice a cs.length cap] 35)) := (Below.refl _ _).alloc (Nat.le_refl _) _
  have hat1 := hat.later rfl hb
  cases h : pzB x y cs with
  | false =>
    have HN := Lib.hid (solV_no h)
    have HR := Lib.hid (fun w hat => readS_no x y a cs.length cap cs w rfl hat h)
    clear h
    go_enter Try.func24, Try.ntmps24
    go_wp2_with fail
    refine (HR.out _ hat1).mono ?_
    rintro e w1 ⟨rfl, hb1⟩
    have hb2 := hb.trans (hb1.mono hb.size)
    have hb3 := hb2.alloc hb2.size (.cells #[.int .i64 0, .int .i64 0, .slice none 0 0] 35)
    clear hb hb1 hat1 hat hb2
    go_wp2_with fail
    go_loopw [7, 18] (fun v i wr => v = .slice none 0 0 ∧ i = .int .i64 0 ∧ Below w.heap.size w wr) (fun _ _ _ => 0)
    case atStart => exact ⟨rfl, rfl, hb3⟩
    case round =>
      obtain ⟨rfl, rfl, hbr⟩ := hrel
      go_wp2_with fail
      go_ret2
      refine ⟨none, 0, ?_, ?_, hbr⟩
      · rw [HN.out]; rfl
      · rw [HN.out]; exact Owns.nil _ _ _
  | true =>
    obtain ⟨W, H, rfl, rfl, hW, hH, h9, hs, h8, hc⟩ := pz_yes h
    have HN := Lib.hid (solV_yes h)
    have HR := Lib.hid (fun w hat => readS_yes W H a cs.length cap cs w rfl hat h)
    have HL := Lib.hid (fun u (hu : u ∈ solC W (W * H) cs) w => lbText_any (preB W (W * H) u) W H u (preB_take W (W * H) u (seqs_len _ u (List.mem_filter.1 hu).1) (by omega)).symm hW hH (by omega) w)
    have hm5 := solC_le W (W * H) h9 cs
    clear h hs hc
    generalize solC W (W * H) cs = S at *
    go_enter Try.func24, Try.ntmps24
    go_wp2_with fail
    refine (HR.out _ hat1).mono ?_
    rintro e w1 ⟨v1, u1, rfl, hR1, hO1, hb1⟩
    obtain ⟨a1, c1, hv⟩ := hR1.shape
    subst hv
    obtain ⟨ab, capb, hv⟩ := hO1.shape
    subst hv
    rw [List.length_map] at hO1
    simp only [List.length_map]
    have hb2 := hb.trans (hb1.mono hb.size)
    have hbx : Below w1.heap.size w1 (w1.alloc (.cells #[.int .i64 W, .int .i64 H, .slice a1 cs.length c1] 35)) := (Below.refl _ _).alloc (Nat.le_refl _) _
    have hX := heap_alloc_new w1 (.cells #[.int .i64 W, .int .i64 H, .slice a1 cs.length c1] 35)
    have hO2 := hO1.later hbx
    have hb3 := hb2.trans (hbx.mono hb2.size)
    go_upto_region 2 with fail
    clear hb hb1 hat1 hat hbx hR1 hO1 hb2
    generalize w1.alloc (.cells #[.int .i64 W, .int .i64 H, .slice a1 cs.length c1] 35) = w2 at *
    generalize w1.heap.size = X at *
    have HX := Lib.hid hX
    have hXl : X < w2.heap.size := block_lt hX
    clear hX
    go_wp2_with fail
    go_loopw [7, 18] (fun v i wr => ∃ k : Nat, k ≤ S.length ∧ i = .int .i64 k ∧ Owns wr w2.heap.size 9 v (txts ((S.take k).map fun u => textM u W H)) ∧ Below w2.heap.size w2 wr) (fun _ i _ => S.length - (intOf i).toNat)
    case atStart => exact ⟨0, Nat.zero_le _, rfl, Owns.nil _ _ _, Below.refl _ _⟩
    case round =>
      obtain ⟨k, hk, rfl, hown, hbr⟩ := hrel
      by_cases hlt : k < S.length
      · obtain ⟨g, cb, cur, hv, hg1, hg2, hgb, hgc, hgs, hgr⟩ := (hO2.later hbr).open (by rw [List.length_map]; omega)
        have hrj := hgr k (by rw [List.length_map]; exact hlt)
        have HT : Hid ((S.take (k + 1)).map (fun u => textM u W H) = (S.take k).map (fun u => textM u W H) ++ [textM S[k] W H]) := by
          rw [Hid, List.take_succ_eq_append_getElem hlt, List.map_append]; rfl
        have hll : ((S.take k).map (fun u => textM u W H)).length = k := by rw [List.length_map, List.length_take]; omega
        have HTX := Lib.hid (HL.out S[k] (List.getElem_mem hlt))
        rw [List.getElem_map] at hrj
        rw [List.length_map] at hv
        simp only [Value.slice.injEq, true_and] at hv
        obtain ⟨rfl, rfl⟩ := hv
        have hXr := (hbr.block _ hXl).trans HX.out
        generalize preB W (W * H) S[k] = z at *
        generalize textM S[k] W H = tx at *
        clear hgr hgb hgs
        go_upto_region 5 with fail
        refine wp_region_lit ?_
        go_step
        go_step
        go_step
        refine wpList_load_mid rfl 69 _ rfl g (k * 24) rfl (encB z) _ hrj Try.underlying69 rfl (inf67.trans (by rw [encB_len])) ?_
        have hxl := encB_len z
        go_step
        go_step
        go_step
        have hA5 : (wr.alloc (.cells #[.int .u8 0, .int .u8 0, .int .u8 0, .int .u8 0, .int .u8 0, .int .u8 0, .int .u8 0, .int .u8 0, .int .u8 0, .int .u8 0, .int .u8 0, .int .u8 0, .int .u8 0, .int .u8 0, .int .u8 0, .int .u8 0, .int .u8 0, .int .u8 0, .int .u8 0, .int .u8 0, .int .u8 0, .int .u8 0, .int .u8 0, .int .u8 0] 69)).heap[wr.heap.size]? = some (.cells #[.int .u8 0, .int .u8 0, .int .u8 0, .int .u8 0, .int .u8 0, .int .u8 0, .int .u8 0, .int .u8 0, .int .u8 0, .int .u8 0, .int .u8 0, .int .u8 0, .int .u8 0, .int .u8 0, .int .u8 0, .int .u8 0, .int .u8 0, .int .u8 0, .int .u8 0, .int .u8 0, .int .u8 0, .int .u8 0, .int .u8 0, .int .u8 0] 69 (0, 0)) := heap_alloc_new wr _
        have hb5 : Below wr.heap.size wr ((wr.alloc (.cells #[.int .u8 0, .int .u8 0, .int .u8 0, .int .u8 0, .int .u8 0, .int .u8 0, .int .u8 0, .int .u8 0, .int .u8 0, .int .u8 0, .int .u8 0, .int .u8 0, .int .u8 0, .int .u8 0, .int .u8 0, .int .u8 0, .int .u8 0, .int .u8 0, .int .u8 0, .int .u8 0, .int .u8 0, .int .u8 0, .int .u8 0, .int .u8 0] 69)).setCells wr.heap.size 0 (encB z)) := below_setCells (encB z) 0 ((Below.refl _ _).alloc (Nat.le_refl _) _) (Nat.le_refl _)
        have hR5 := World.rangeAt_setCells_same (wr.alloc (.cells #[.int .u8 0, .int .u8 0, .int .u8 0, .int .u8 0, .int .u8 0, .int .u8 0, .int .u8 0, .int .u8 0, .int .u8 0, .int .u8 0, .int .u8 0, .int .u8 0, .int .u8 0, .int .u8 0, .int .u8 0, .int .u8 0, .int .u8 0, .int .u8 0, .int .u8 0, .int .u8 0, .int .u8 0, .int .u8 0, .int .u8 0, .int .u8 0] 69)) wr.heap.size 0 (encB z) (by rw [encB_len]; exact there24 hA5 rfl)
        refine wpList_store_mid rfl 69 _ _ rfl wr.heap.size 0 (encB z).toArray rfl rfl (by rw [encB_size]; exact there24 hA5 rfl) (inf67.trans (by rw [encB_size])) (all_oneCell_toArray (encB_one z)) ?_
        refine wpList_nil ?_
        clear hA5
        generalize (wr.alloc (.cells #[.int .u8 0, .int .u8 0, .int .u8 0, .int .u8 0, .int .u8 0, .int .u8 0, .int .u8 0, .int .u8 0, .int .u8 0, .int .u8 0, .int .u8 0, .int .u8 0, .int .u8 0, .int .u8 0, .int .u8 0, .int .u8 0, .int .u8 0, .int .u8 0, .int .u8 0, .int .u8 0, .int .u8 0, .int .u8 0, .int .u8 0, .int .u8 0] 69)).setCells wr.heap.size 0 (encB z) = w5 at *
        have hown5 := hown.later hb5
        have hbr5 : Below w2.heap.size w2 w5 := hbr.trans (hb5.mono hbr.size)
        have hX5 := (hb5.block X (by have := hbr.size; omega)).trans hXr
        generalize hBX : wr.heap.size = BX at *
        have f0 := cell_of_block hX5 0
        have f1 := cell_of_block hX5 1
        simp at f0 f1
        clear hXr hb5 hown hbr hX5
        go_upto_region 6 with fail
        refine wp_region_lit ?_
        go_step
        go_step
        go_step
        refine wpList_load_mid rfl 69 _ rfl BX 0 rfl (encB z) _ hR5 Try.underlying69 rfl (inf67.trans (by rw [encB_len])) ?_
        go_wp2_with fail
        refine (HTX.out _).mono ?_
        rintro e w6 ⟨rfl, hb6⟩
        have hown6 := hown5.later hb6
        have hbr6 := hbr5.trans (hb6.mono hbr5.size)
        have hs6 := hbr6.size
        clear hb6 hown5 hbr5 hR5 f0 f1
        go_wp2_with (at_builtin; refine wpList_app1 rfl _ _ _ rfl _ _ _ _ elemStr _ _ _ _ rfl rfl rfl hown6 rfl (by simp; omega) hs6 (by simp; omega) ?_; intro v7 w7 hown7 hb7 hs7)
        rw [txts_snoc, ← HT.out] at hown7
        go_roundw
        case rel => exact ⟨k + 1, by omega, by go_num, hown7, hbr6.trans hb7⟩
        case measure => simp [intOf]; omega
      · obtain rfl : k = S.length := by omega
        rw [List.take_length] at hown
        obtain ⟨a3, c3, hv⟩ := hown.shape
        subst hv
        rw [txts_length] at hown ⊢
        go_wp2_with fail
        go_ret2
        refine ⟨a3, c3, ?_, ?_, hb3.trans (hbr.mono hb3.size)⟩
        · rw [HN.out]; rfl
        · rw [HN.out]; exact hown.mono hb3.size
theorem core_Solutions (x y : Int) (cs : List Clu) : ∃ (R : Bool) (D : List (List UInt8)), D.length ≤ 1000000 ∧
    (∀ (a : Option Addr) (n c : Nat) (w : World) (B : Nat), n = cs.length → RowC w B (.slice a n c) cs → Calls Try.prog 23 #[.agg #[.int .i64 x, .int .i64 y, .slice a n c]] w fun e w' => ∃ a' c', e = .returned (.tuple #[.slice a' D.length c', .bool R]) ∧ Owns w' w.heap.size 9 (.slice a' D.length c') (txts D) ∧ Below w.heap.size w w') ∧
    (∀ (a : Option Addr) (n c : Nat) (w : World), n = cs.length → At w a (flatC cs) → Calls Try.prog 24 #[.agg #[.int .i64 x, .int .i64 y, .slice a n c]] w fun e w' => ∃ a' c', e = .returned (.tuple #[.slice a' D.length c', .bool R]) ∧ Owns w' w.heap.size 9 (.slice a' D.length c') (txts D) ∧ Below w.heap.size w w') :=
  ⟨pzB x y cs, solV x y cs, by have := solV_len x y cs; omega, fun a n c w B hn hR => sSolutions_any x y B a n c cs w hn hR, fun a n c w hn hat => iSolutions_any x y a n c cs w hn hat⟩
end Go.Proofs.Ytnnbkbjhombblaa
