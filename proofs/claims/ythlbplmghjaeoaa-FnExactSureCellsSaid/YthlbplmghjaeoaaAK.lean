/- The solutions of a puzzle, by the program. -/
import Derived.Test.YthlbplmghjaeoaaAJ
namespace Go.Proofs.Ythlbplmghjaeoaa
open Go.RowKit

/-- A board is laid into a new row. -/
theorem wp_build1 {o : Oper} {a : Act} {w : World} {K : Act → World → Prop} {Q : Exit → Act → World → Prop} (p0 : Operand) (ho : o.op = .buildSlice 53 1 #[(0, p0)]) (y1 : LB)
    (h0 : a.eval p0 = .agg (encB y1).toArray) (h : K (a.put o.dst (.slice (some ⟨w.heap.size, 0, none⟩) 1 1)) (w.alloc (.cells (encB y1).toArray 58))) : o.wp Try.prog a w K Q := by
  have hc := inf67c
  cases hi : Try.prog.info? 58 with
  | none => rw [hi] at hc; cases hc
  | some i =>
    rw [hi] at hc
    simp only [Option.map_some, Option.some.injEq, Prod.mk.injEq] at hc
    obtain ⟨g1, g2, g3⟩ := hc
    cases hz : i.zero with
    | none => rw [hz] at g3; cases g3
    | some z =>
      refine wp_buildSlice 53 58 1 _ ho (encB y1).toArray i z Try.underlying53 hi hz (by rw [g1]; decide) (by rw [g1]; decide) ?_ h
      have e : ((#[(0, p0)] : Array (Nat × Operand)).map fun (x : Nat × Operand) => (x.1, a.eval x.2)).toList = (([Value.agg (encB y1).toArray].zipIdx 0).map fun x => (x.2, x.1)) := by
        simp [h0, List.zipIdx]
      rw [g1]
      refine (congrArg _ e).trans ?_
      rw [Great.fill_whole (s := 24) (by decide) [Value.agg (encB y1).toArray] _ (by intro v hv; simp at hv; rcases hv with rfl; simp [Value.cells, encB_len]) (by simp)]
      simp [Value.cells]
theorem wpList_build1 {ops : Array Oper} {rest : List Oper} {o : Oper} {a : Act} {w : World} {Q : Exit → Act → World → Prop} (hgd : o.guard = none) (p0 : Operand) (ho : o.op = .buildSlice 53 1 #[(0, p0)]) (y1 : LB)
    (h0 : a.eval p0 = .agg (encB y1).toArray) (h : wpList Try.prog ops Q rest (a.put o.dst (.slice (some ⟨w.heap.size, 0, none⟩) 1 1)) (w.alloc (.cells (encB y1).toArray 58))) : wpList Try.prog ops Q (o :: rest) a w :=
  wpList_plain hgd fun _ hK => wp_build1 p0 ho y1 h0 (hK _ _ h)
theorem wpList_appB {ops : Array Oper} {rest : List Oper} {o : Oper} {a : Act} {w : World} {Q : Exit → Act → World → Prop} (hgd : o.guard = none) (s x : Operand)
    (ho : o.op = .call { callee := .builtin .append, args := #[s, x], argTypes := #[53, 53] })
    (B : Nat) (v : Value) (L : List LB) (hs : a.eval s = v) (hown : OwnsB w B v L) (ad n : Nat) (xs : List LB) (hn : xs.length = n) (hx : a.eval x = .slice (some ⟨ad, 0, none⟩) n n) (hr : w.rangeAt ad 0 (flatB xs))
    (hlen : L.length + xs.length ≤ 1000000) (hB : B ≤ w.heap.size)
    (h : ∀ v' w', OwnsB w' B v' (L ++ xs) → Below B w w' → wpList Try.prog ops Q rest (a.put o.dst v') w') : wpList Try.prog ops Q (o :: rest) a w := by
  refine wpList_plain hgd fun K hK => ?_
  have h2 := step_appB (ops := #[]) (S := True) (K := K) (Q := Q) hgd s x ho B v L hs hown ad n xs hn hx hr hlen hB (fun v' w' p q _ => hK _ _ (h v' w' p q))
  have hw : Region.wanted o (yielded #[] a.tmps) = true := by simp [Region.wanted, hgd]
  rwa [if_pos hw] at h2
set_option maxRecDepth 100000 in
set_option maxHeartbeats 6400000 in
theorem solutions_any (W H n cap : Nat) (a : Option Addr) (cs : List Clu) (w : World) (hW : 1 ≤ W ∧ W ≤ 8) (hH : 1 ≤ H ∧ H ≤ 8) (h9 : W * H ≤ 9) (hn : n = cs.length) (hl : cs.length ≤ 1000000) (hc : ∀ c ∈ cs, cluB W H c = true) (hat : At w a (flatC cs)) :
    Calls Try.prog 37 #[.agg #[.int .i64 W, .int .i64 H, .slice a n cap]] w fun e w' => ∃ v, e = .returned v ∧ OwnsB w' w.heap.size v ((solC W (W * H) cs).map (preB W (W * H))) ∧ Below w.heap.size w w' := by
  subst hn
  have hlb := listBoards_any W H hW hH (by omega)
  have hAll : listGo W (W * H) (W * H) = (seqs (W * H)).map (preB W (W * H)) := by rw [listGo_all W _ (by omega), allM_seqs _ h9]
  rw [hAll] at hlb
  have HLB := Lib.hid hlb
  have hm4 : (seqs (W * H)).length ≤ 512 := by rw [seqs_length]; exact Nat.pow_le_pow_right (by decide) h9
  have HF := Lib.hid (fun u (hu : u ∈ seqs (W * H)) w' hat' => fits_any W H cs.length cap a cs u w' hW hH h9 (seqs_len _ u hu) (seqs_brd _ u hu) rfl hl hc hat')
  have HX : Hid (solC W (W * H) cs = (seqs (W * H)).filter fun u => cs.all (fitC W u)) := rfl
  rw [HX.out]
  have hG := heap_alloc_new w (.cells #[.int .i64 W, .int .i64 H, .slice a cs.length cap] 30)
  have hb0 : Below w.heap.size w (w.alloc (.cells #[.int .i64 W, .int .i64 H, .slice a cs.length cap] 30)) := (Below.refl _ _).alloc (Nat.le_refl _) _
  have hat1 := hat.later rfl hb0
  have f0 := cell_of_block hG 0
  have f1 := cell_of_block hG 1
  have f2 := cell_of_block hG 2
  simp at f0 f1 f2
  clear hat hc hlb hAll HX
  generalize W * H = d at *
  generalize hB0 : w.heap.size = B0 at *
  go_enter Try.func37, Try.ntmps37
  go_wp2_with fail
  refine (HLB.out _).mono ?_
  rintro e w4 ⟨v4, rfl, hO4, hb4⟩
  have hG4 : Hid (w4.heap[B0]? = some (.cells #[.int .i64 W, .int .i64 H, .slice a cs.length cap] 30 (0, 0))) := (hb4.block B0 (block_lt hG)).trans hG
  have hat4 := Lib.hid (hat1.later rfl hb4)
  have hB4 : Below B0 w w4 := hb0.trans (hb4.mono (by rw [← hB0]; exact hb0.size))
  have hB04 : B0 < w4.heap.size := block_lt hG4.out
  obtain ⟨ab, capb, rfl⟩ := hO4.shape
  rw [List.length_map] at hO4
  clear hb4 hat1 hb0 hG f0 f1 f2 HLB
  generalize hSS : seqs d = S at *
  simp only [List.length_map]
  go_wp2_with fail
  go_loopw [3, 12] (fun v i wr => ∃ k : Nat, k ≤ S.length ∧ i = .int .i64 k ∧ OwnsB wr w4.heap.size v (((S.take k).filter fun u => cs.all (fitC W u)).map (preB W d)) ∧ Below w4.heap.size w4 wr) (fun _ i _ => S.length - (intOf i).toNat)
  case atStart => exact ⟨0, Nat.zero_le _, rfl, OwnsB.nil _ _, Below.refl _ _⟩
  case round =>
    obtain ⟨k, hk, rfl, hown, hbr⟩ := hrel
    by_cases hlt : k < S.length
    · obtain ⟨g, cb, cur, hv, hg1, hg2, hgb, hgc, hgs, hgr⟩ := (hO4.later hbr).open (by rw [List.length_map]; omega)
      have hrj := hgr k (by rw [List.length_map]; exact hlt)
      have HT : Hid (((S.take (k + 1)).filter fun u => cs.all (fitC W u)).map (preB W d) = ((S.take k).filter fun u => cs.all (fitC W u)).map (preB W d) ++ (if cs.all (fitC W S[k]) = true then [preB W d S[k]] else [])) := by
        rw [Hid, List.take_succ_eq_append_getElem hlt, List.filter_append, List.map_append]
        congr 1
        cases h : cs.all (fitC W S[k]) <;> simp [h]
      have hfl : (((S.take k).filter fun u => cs.all (fitC W u)).map (preB W d)).length ≤ k := by
        rw [List.length_map]; exact Nat.le_trans (List.length_filter_le _ _) (List.length_take_le _ _)
      have hfit := fun w' hat' => HF.out S[k] (List.getElem_mem hlt) w' hat'
      rw [List.getElem_map] at hrj
      have hat4r := hat4.out.later rfl hbr
      have hGr : wr.heap[B0]? = some (.cells #[.int .i64 W, .int .i64 H, .slice a cs.length cap] 30 (0, 0)) := (hbr.block B0 hB04).trans hG4.out
      rw [List.length_map] at hv
      simp only [Value.slice.injEq, true_and] at hv
      obtain ⟨rfl, rfl⟩ := hv
      generalize preB W d S[k] = x at *
      generalize cs.all (fitC W S[k]) = q at *
      clear hgr hgb hgs hO4
      go_upto_region 4 with fail
      refine wp_region_lit ?_
      go_step
      go_step
      go_step
      refine wpList_load_mid rfl 58 _ rfl g (k * 24) rfl (encB x) _ hrj Try.underlying58 rfl (inf67.trans (by rw [encB_len])) ?_
      have hxl := encB_len x
      go_step
      go_step
      go_step
      have hA5 : (wr.alloc (.cells #[.int .u8 0, .int .u8 0, .int .u8 0, .int .u8 0, .int .u8 0, .int .u8 0, .int .u8 0, .int .u8 0, .int .u8 0, .int .u8 0, .int .u8 0, .int .u8 0, .int .u8 0, .int .u8 0, .int .u8 0, .int .u8 0, .int .u8 0, .int .u8 0, .int .u8 0, .int .u8 0, .int .u8 0, .int .u8 0, .int .u8 0, .int .u8 0] 58)).heap[wr.heap.size]? = some (.cells #[.int .u8 0, .int .u8 0, .int .u8 0, .int .u8 0, .int .u8 0, .int .u8 0, .int .u8 0, .int .u8 0, .int .u8 0, .int .u8 0, .int .u8 0, .int .u8 0, .int .u8 0, .int .u8 0, .int .u8 0, .int .u8 0, .int .u8 0, .int .u8 0, .int .u8 0, .int .u8 0, .int .u8 0, .int .u8 0, .int .u8 0, .int .u8 0] 58 (0, 0)) := heap_alloc_new wr _
      have hb5 : Below wr.heap.size wr ((wr.alloc (.cells #[.int .u8 0, .int .u8 0, .int .u8 0, .int .u8 0, .int .u8 0, .int .u8 0, .int .u8 0, .int .u8 0, .int .u8 0, .int .u8 0, .int .u8 0, .int .u8 0, .int .u8 0, .int .u8 0, .int .u8 0, .int .u8 0, .int .u8 0, .int .u8 0, .int .u8 0, .int .u8 0, .int .u8 0, .int .u8 0, .int .u8 0, .int .u8 0] 58)).setCells wr.heap.size 0 (encB x)) := below_setCells (encB x) 0 ((Below.refl _ _).alloc (Nat.le_refl _) _) (Nat.le_refl _)
      have hR5 := World.rangeAt_setCells_same (wr.alloc (.cells #[.int .u8 0, .int .u8 0, .int .u8 0, .int .u8 0, .int .u8 0, .int .u8 0, .int .u8 0, .int .u8 0, .int .u8 0, .int .u8 0, .int .u8 0, .int .u8 0, .int .u8 0, .int .u8 0, .int .u8 0, .int .u8 0, .int .u8 0, .int .u8 0, .int .u8 0, .int .u8 0, .int .u8 0, .int .u8 0, .int .u8 0, .int .u8 0] 58)) wr.heap.size 0 (encB x) (by rw [encB_len]; exact there24 hA5 rfl)
      refine wpList_store_mid rfl 58 _ _ rfl wr.heap.size 0 (encB x).toArray rfl rfl (by rw [encB_size]; exact there24 hA5 rfl) (inf67.trans (by rw [encB_size])) (all_oneCell_toArray (encB_one x)) ?_
      refine wpList_nil ?_
      clear hA5
      generalize (wr.alloc (.cells #[.int .u8 0, .int .u8 0, .int .u8 0, .int .u8 0, .int .u8 0, .int .u8 0, .int .u8 0, .int .u8 0, .int .u8 0, .int .u8 0, .int .u8 0, .int .u8 0, .int .u8 0, .int .u8 0, .int .u8 0, .int .u8 0, .int .u8 0, .int .u8 0, .int .u8 0, .int .u8 0, .int .u8 0, .int .u8 0, .int .u8 0, .int .u8 0] 58)).setCells wr.heap.size 0 (encB x) = w5 at *
      have hown5 := hown.later hb5
      have hbr5 : Below w4.heap.size w4 w5 := hbr.trans (hb5.mono hbr.size)
      have hat5 := hat4r.later rfl hb5
      have hG5 : w5.heap[B0]? = some (.cells #[.int .i64 W, .int .i64 H, .slice a cs.length cap] 30 (0, 0)) := (hb5.block B0 (by have := hbr.size; omega)).trans hGr
      have hvx : ∀ b, u3.ownBlock = some b → b < wr.heap.size := fun b hb => (hown.lt b hb).2
      have hR5d : w5.rangeAt B0 0 [.int .i64 W, .int .i64 H, .slice a cs.length cap] ∧ w5.rangeAt wr.heap.size 0 (encB x) := ⟨range3 (cell_of_block hG5 0) (cell_of_block hG5 1) (cell_of_block hG5 2), hR5⟩
      generalize hBX : wr.heap.size = BX at *
      go_upto_region 5 with fail
      refine wp_region_lit ?_
      refine wpList_load_mid rfl 30 _ rfl B0 0 rfl [.int .i64 W, .int .i64 H, .slice a cs.length cap] _ hR5d.1 Try.underlying30 rfl infPuz ?_
      refine wpList_load_mid rfl 58 _ rfl BX 0 rfl (encB x) _ hR5d.2 Try.underlying58 rfl (inf67.trans (by rw [encB_len])) ?_
      go_step
      go_step
      refine (hfit _ hat5).mono ?_
      rintro e w6 ⟨rfl, hb6⟩
      have hown6 := hown5.later hb6
      have hbr6 : Below w4.heap.size w4 w6 := hbr5.trans (hb6.mono hbr5.size)
      have hR6 := range_later hR5d.2 hb6
      clear hfit hR5d hR5 hG5 hat5 hb6 hown5 hbr5 hGr hat4r hb5 hown hbr hG4 hat4 hB4
      cases q with
      | false =>
        simp only [if_neg (show ¬ (false = true) by decide), List.append_nil] at HT
        rw [← HT.out] at hown6
        go_wp2_with fail
        go_roundw
        case rel => exact ⟨k + 1, by omega, by go_num, hown6, hbr6⟩
        case measure => simp [intOf]; omega
      | true =>
        simp only [if_pos] at HT
        go_upto_region 6 with fail
        refine wp_region_lit ?_
        go_step
        go_step
        go_step
        refine wpList_load_mid rfl 58 _ rfl BX 0 rfl (encB x) _ hR6 Try.underlying58 rfl (inf67.trans (by rw [encB_len])) ?_
        have hA7 := hown6.later ((Below.refl _ _).alloc (Nat.le_refl _) (.cells (encB x).toArray 58))
        have hb7 : Below w4.heap.size w4 (w6.alloc (.cells (encB x).toArray 58)) := hbr6.alloc hbr6.size _
        have hRA : (w6.alloc (.cells (encB x).toArray 58)).rangeAt w6.heap.size 0 (flatB [x]) := by
          rw [show flatB [x] = encB x by simp [flatB]]
          exact range24 (heap_alloc_new w6 _)
        refine wpList_build1 rfl _ rfl x rfl ?_
        refine wpList_appB rfl _ _ rfl w4.heap.size u3 _ rfl hA7 w6.heap.size 1 [x] rfl rfl hRA (by simp only [List.length_cons, List.length_nil]; omega) hb7.size ?_
        intro v8 w8 hown8 hb8
        rw [← HT.out] at hown8
        have hb8' : Below w4.heap.size w4 w8 := hb7.trans hb8
        go_step
        go_step
        go_wp2_with fail
        go_roundw
        case rel => exact ⟨k + 1, by omega, by go_num, hown8, hb8'⟩
        case measure => simp [intOf]; omega
    · obtain rfl : k = S.length := by omega
      go_wp2_with fail
      go_ret
      rw [List.take_length] at hown
      refine ⟨u3, rfl, ?_, hB4.trans (hbr.mono (Nat.le_of_lt hB04))⟩
      rw [hSS]
      exact hown.mono (Nat.le_of_lt hB04)
end Go.Proofs.Ythlbplmghjaeoaa
