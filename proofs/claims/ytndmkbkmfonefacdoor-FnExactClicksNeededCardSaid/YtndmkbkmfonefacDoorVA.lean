/- Clicks read by the program: a board and not too many of them. -/
import Derived.Test.YtndmkbkmfonefacDoorV9
import Derived.Outline
import Derived.Laws.CopyOwn
import Derived.OrdersHeld
import Derived.RegionTactic
namespace Go.Proofs.YtndmkbkmfonefacDoor
open Go.RowKit

theorem lstK_one (xs : List Int) (k : Nat) : (lstK xs k).all (·.oneCell') = true := by
  simp [lstK, ints, Value.oneCell']
  intro x hx
  obtain ⟨y, _, rfl⟩ := List.mem_map.1 (List.mem_of_mem_take hx)
  rfl
/-- The load of a whole row may be taken first, where the row is known in every world that meets S. -/
theorem yields_row {P : Program} {ops : Array Oper} {S : World → Prop} {o : Oper} {a : Act} (hgd : o.guard = none) (ty : TypeId) (x : Operand) (ho : o.op = .load ty x)
    (g : Nat) (hx : a.eval x = .pointer (some ⟨g, 0, none⟩)) (t : TypeId) (cs : Array Value) (fr : Nat × Nat) (d : TypeDesc) (hS : ∀ w, S w → w.heap[g]? = some (.cells cs t fr))
    (hu : P.underlying ty = some d) (hd : (match d with | .struct _ | .array _ _ => true | _ => false) = true) (hi : (P.info? ty).map (·.size) = some cs.size) : YieldsIf P ops S o (.agg cs) a := by
  refine .inl ⟨by simp [Region.wanted, hgd], fun w h => ?_⟩
  unfold execOp
  simp only [ho, hx, Instr.loadAt, Instr.sureAddr, Sem.run_bind, Sem.run_pure, Result.andThen_ok, run_loadVar_row w g t ty cs fr d (hS w h) hu hd hi]

set_option maxRecDepth 100000 in
set_option maxHeartbeats 1600000 in
theorem readClicks_good (l : List UInt8) (xs : List Int) (a : Option Addr) (cap : Nat) (w : World) (hM : HasMax w) (hl : l.length ≤ 1048576) (hat : At w a (ints xs)) (hx : xs.length ≤ 64) (hg : boGoodM l = true) :
    Calls Tryd.prog 64 #[.string ⟨l.toArray⟩, .slice a xs.length cap] w fun e w' =>
      ((xs.all (freeOK l) = true ∧ ∃ a' c', e = .returned (.tuple #[.agg #[.int .i64 (gW l), .int .i64 (gH l), .slice a' (gCells l).length c', .bool false], .agg (lstK xs xs.length), .bool true]) ∧ Owns w' w.heap.size 5 (.slice a' (gCells l).length c') (byts (gCells l)))
      ∨ (xs.all (freeOK l) = false ∧ e = .returned (.tuple #[.agg #[.int .i64 0, .int .i64 0, .slice none 0 0, .bool false], .agg (lst []), .bool false]))) ∧ Below w.heap.size w w' := by
  have hz : ∀ w : World, (zeroValue 63).run Tryd.prog w = .ok (.agg (lst [])) w := fun w => by kernel_rfl
  have hbd : Tryd.prog.built 63 [] = some (lst []) := by kernel_rfl
  have hsz : (Tryd.prog.info? 63).map (·.size) = some (lst []).size := by kernel_rfl
  have hone : (lst []).all (·.oneCell') = true := by kernel_rfl
  have hbc := built_count (xs.length : Int)
  rw [← lstK_zero] at hbc
  have hls : (lst []).size = 65 := rfl
  have hlk := lstK_size (xs := xs) (k := 0) (by omega) hx
  have hszk : (Tryd.prog.info? 63).map (·.size) = some (lstK xs 0).size := by rw [hsz, hls, hlk]
  have honek : (lstK xs 0).all (·.oneCell') = true := by rw [lstK_zero]; simp [Value.oneCell']
  have hzk : (lst []).size = (lstK xs 0).size := by rw [hls, hlk]
  have hset : (lst []).setIfInBounds 64 (.int .i64 (xs.length : Int)) = lstK xs 0 := by rw [lstK_zero]; kernel_rfl
  have hls0 : (lst []).size = 65 := rfl
  have hrb := fun w h => readBoard_any l w h hl
  rw [hg] at hrb
  have HSK := Lib.hid hszk
  have HOK := Lib.hid honek
  have HZK := Lib.hid hzk
  have HLS := Lib.hid hls
  have HONE := Lib.hid hone
  have HSZ := Lib.hid hsz
  have HZ := Lib.hid hz
  have HBD := Lib.hid hbd
  generalize hz0 : lst [] = z0 at *
  clear hlk hszk honek hzk hls hone hsz hz0
  go_enter Tryd.func64, Tryd.ntmps64
  go_wp2_with fail
  have hb0 : Below w.heap.size w ((w.alloc (.cells #[.int .i64 0, .int .i64 0, .slice none 0 0, .bool false] 42)).alloc (.cells z0 63)) := ((Below.refl _ _).alloc (Nat.le_refl _) _).alloc (by simp) _
  have hs0 : ((w.alloc (.cells #[.int .i64 0, .int .i64 0, .slice none 0 0, .bool false] 42)).alloc (.cells z0 63)).heap.size = w.heap.size + 2 := by simp
  have hR4 : ((w.alloc (.cells #[.int .i64 0, .int .i64 0, .slice none 0 0, .bool false] 42)).alloc (.cells z0 63)).heap[w.heap.size]? = some (.cells #[.int .i64 0, .int .i64 0, .slice none 0 0, .bool false] 42 (0, 0)) := by
    have h1 : Below (w.heap.size + 1) (w.alloc (.cells #[.int .i64 0, .int .i64 0, .slice none 0 0, .bool false] 42)) ((w.alloc (.cells #[.int .i64 0, .int .i64 0, .slice none 0 0, .bool false] 42)).alloc (.cells z0 63)) := (Below.refl _ _).alloc (by simp) _
    rw [h1.block _ (by omega)]
    exact heap_alloc_new w _
  have hR5 : ((w.alloc (.cells #[.int .i64 0, .int .i64 0, .slice none 0 0, .bool false] 42)).alloc (.cells z0 63)).heap[w.heap.size + 1]? = some (.cells z0 63 (0, 0)) := by
    have h2 := heap_alloc_new (w.alloc (.cells #[.int .i64 0, .int .i64 0, .slice none 0 0, .bool false] 42)) (.cells z0 63)
    simpa using h2
  generalize (w.alloc (.cells #[.int .i64 0, .int .i64 0, .slice none 0 0, .bool false] 42)).alloc (.cells z0 63) = w0 at *
  refine (hrb _ (hM.later hb0)).mono ?_
  rintro e w1 ⟨a1, c1, rfl, hown1, hb1⟩
  have hgl := gCells_le l
  have HF : Hid (∀ c, freeOK l c = freeB (gCells l) c) := fun c => by simp [freeOK]
  generalize hWe : gW l = W at *
  generalize hHe : gH l = H at *
  generalize hCe : gCells l = cells at *
  have HWE := Lib.hid hWe
  have HHE := Lib.hid hHe
  have HCE := Lib.hid hCe
  clear hWe hHe hCe
  have h64n : ¬ (64 < (xs.length : Int)) := by omega
  go_upto_region 4 with fail
  have s1 := hb1.size
  have hbk := hown1.lt
  have hG7 : (w1.alloc (.cells #[.int .i64 W, .int .i64 H, .slice a1 cells.length c1, .bool false] 42)).heap[w1.heap.size]? = some (.cells #[.int .i64 W, .int .i64 H, .slice a1 cells.length c1, .bool false] 42 (0, 0)) := heap_alloc_new w1 _
  have hs7 : (w1.alloc (.cells #[.int .i64 W, .int .i64 H, .slice a1 cells.length c1, .bool false] 42)).heap.size = w1.heap.size + 1 := by simp
  have hb2 : Below w0.heap.size w0 (w1.alloc (.cells #[.int .i64 W, .int .i64 H, .slice a1 cells.length c1, .bool false] 42)) := hb1.alloc s1 _
  have hown2 := hown1.later ((Below.refl _ w1).alloc (Nat.le_refl _) (.cells #[.int .i64 W, .int .i64 H, .slice a1 cells.length c1, .bool false] 42))
  generalize w1.heap.size = n7 at *
  generalize w1.alloc (.cells #[.int .i64 W, .int .i64 H, .slice a1 cells.length c1, .bool false] 42) = w2 at *
  have hs2 : w2.heap.size = n7 + 1 := hs7
  have i64 : (64 : Nat) < z0.size := by omega
  clear hbc hbd
  go_upto_region 5 with (refine wpList_store_row rfl _ _ _ rfl (n7 + 1) (lstK xs 0) rfl rfl 63 z0 (by rw [← hs2]; exact heap_alloc_new w2 _) HSK.out HZK.out HOK.out ?_)
  have hG9 := setRow_heap (w2.alloc (.cells z0 63)) (n7 + 1) z0 (lstK xs 0) 63 (0, 0) (by rw [← hs2]; exact heap_alloc_new w2 _)
  have hb23 : Below (n7 + 1) w2 ((w2.alloc (.cells z0 63)).setRow (n7 + 1) (lstK xs 0)) := below_setRow ((Below.refl _ _).alloc (by omega) _) (Nat.le_refl _) _
  have hs3 : ((w2.alloc (.cells z0 63)).setRow (n7 + 1) (lstK xs 0)).heap.size = n7 + 2 := by simp; omega
  generalize (w2.alloc (.cells z0 63)).setRow (n7 + 1) (lstK xs 0) = w3 at *
  have hb03 : Below w0.heap.size w0 w3 := hb2.trans (hb23.mono (by omega))
  have hbw3 : Below w.heap.size w w3 := hb0.trans (hb03.mono (by omega))
  have hG7' := (hb23.block n7 (by omega)).trans hG7
  have hR4' := (hb03.block _ (by omega)).trans hR4
  have hR5' := (hb03.block _ (by omega)).trans hR5
  have hown3 := hown2.later (hb23.mono (by omega))
  have HG7 := Lib.hid hG7'
  have HR4 := Lib.hid hR4'
  have HR5 := Lib.hid hR5'
  clear hown1 hown2 hG7 hG7' hR4 hR4' hR5 hR5' hb0 hb1 hb2 hb23 hrb hz hset hls0 i64
  go_wp2_with fail
  go_loopw [31] (fun i wr => ∃ k : Nat, k ≤ xs.length ∧ i = .int .i64 k ∧ Hid (wr.heap[n7 + 1]? = some (.cells (lstK xs k) 63 (0, 0))) ∧ Touch (n7 + 1) w3 wr ∧ Hid (xs.all (freeOK l) = (xs.drop k).all (freeOK l))) (fun i _ => xs.length - (intOf i).toNat)
  case atStart => exact ⟨0, Nat.zero_le _, rfl, hG9, Touch.refl _ _, by simp [Hid]⟩
  case round =>
    obtain ⟨k, hk, rfl, hG9r, ht, hR⟩ := hrel
    have hGr7 : wr.heap[n7]? = some (.cells #[.int .i64 W, .int .i64 H, .slice a1 cells.length c1, .bool false] 42 (0, 0)) := by rw [ht.block _ (by omega) (by simp)]; exact HG7.out
    have hf0 := cell_of_block hGr7 0
    have hf1 := cell_of_block hGr7 1
    have hf2 := cell_of_block hGr7 2
    have hf3 := cell_of_block hGr7 3
    simp at hf0 hf1 hf2 hf3
    have hbr : Below w.heap.size w wr := hbw3.trans (ht.below (by omega) (by omega))
    by_cases hlt : k < xs.length
    · have Ht := Lib.hid (List.drop_eq_getElem_cons hlt)
      obtain ⟨b, off, he, hcx⟩ := ints_at (hat.below hat (Nat.le_refl _) hbr) k hlt
      subst he
      have hatc : At wr a1 (byts cells) := (Owns.below hown3 (fun j hj => by have := (hbk j hj).2; omega) (ht.below (C := n7 + 1) (Nat.le_refl _) (by omega))).at
      have i64 : (k : Int) < 64 := by omega
      have hif := fun w h => isFree_any (J := false) W H a1 cells c1 xs[k] w h hgl
      cases hf : freeOK l xs[k] with
      | true =>
        rw [← HF.out, hf] at hif
        have HFT := Lib.hid hf
        have HIF := Lib.hid hif
        clear hf hif hGr7
        go_wp2_with fail
        refine (HIF.out _ hatc).mono ?_
        rintro e w5 ⟨rfl, hb5⟩
        have ht5 := ht.trans (Touch.of hb5)
        have hlt9 : n7 + 1 < wr.heap.size := by have := ht.size; omega
        have hG95 : w5.heap[n7 + 1]? = some (.cells (lstK xs k) 63 (0, 0)) := (hb5.block _ hlt9).trans hG9r.out
        have hq := frozen_of_block hG95 k
        have hbs := block_set hG95 k (.int .i64 xs[k])
        rw [lstK_step hlt hx] at hbs
        have HBS := Lib.hid hbs
        have hce : ∃ v, w5.cell? ⟨n7 + 1, k, none⟩ = some v := ⟨_, (cell_of_block hG95 k).trans (Array.getElem?_eq_getElem (by rw [lstK_size hk hx]; omega))⟩
        obtain ⟨old, hce⟩ := hce
        have hts : Touch (n7 + 1) w3 (w5.setCell ⟨n7 + 1, k, none⟩ (.int .i64 xs[k])) := ht5.trans ⟨rfl, rfl, rfl, by simp, fun j hj hne => blockAway (fun h => hne (by rw [h])) k _⟩
        clear hbs hG95
        go_wp2_with fail
        go_roundw
        case rel => exact ⟨k + 1, by omega, by go_num, HBS.out, hts, by rw [Hid, hR.out, Ht.out, List.all_cons, HFT.out]; rfl⟩
        case measure => simp [intOf]; omega
      | false =>
        rw [← HF.out, hf] at hif
        have HFT := Lib.hid hf
        have HIF := Lib.hid hif
        clear hf hif hGr7
        go_wp2_with fail
        refine (HIF.out _ hatc).mono ?_
        rintro e w5 ⟨rfl, hb5⟩
        have ht5 := ht.trans (Touch.of hb5)
        have hR4r := (ht5.block _ (by omega) (by simp; omega)).trans HR4.out
        have hR5r := (ht5.block _ (by omega) (by simp; omega)).trans HR5.out
        have hq0 := frozen_of_block hR4r 0
        have hq1 := frozen_of_block hR4r 1
        have hq2 := frozen_of_block hR4r 2
        have hq3 := frozen_of_block hR4r 3
        have hf0 := cell_of_block hR4r 0
        have hf1 := cell_of_block hR4r 1
        have hf2 := cell_of_block hR4r 2
        have hf3 := cell_of_block hR4r 3
        simp at hf0 hf1 hf2 hf3
        have hb05 : Below w.heap.size w w5 := hbw3.trans (ht5.below (by omega) (by omega))
        have hne : w.heap.size + 1 ≠ w.heap.size := by omega
        have hst : ∀ v0 v1 v2, ((((w5.setCell ⟨w.heap.size, 0, none⟩ v0).setCell ⟨w.heap.size, 1, none⟩ v1).setCell ⟨w.heap.size, 2, none⟩ v2).setCell ⟨w.heap.size, 3, none⟩ (.bool false)).heap[w.heap.size + 1]? = some (.cells z0 63 (0, 0)) := fun v0 v1 v2 =>
          (blockAway hne 3 _).trans ((blockAway hne 2 _).trans ((blockAway hne 1 _).trans ((blockAway hne 0 _).trans hR5r)))
        have hsr := fun v0 v1 v2 => setRow_self _ (w.heap.size + 1) z0 _ _ (hst v0 v1 v2)
        have hone := HONE.out
        have hsc : ∀ v0 v1 v2, (storeCells ⟨w.heap.size + 1, 0, none⟩ z0.toList).run Tryd.prog ((((w5.setCell ⟨w.heap.size, 0, none⟩ v0).setCell ⟨w.heap.size, 1, none⟩ v1).setCell ⟨w.heap.size, 2, none⟩ v2).setCell ⟨w.heap.size, 3, none⟩ (.bool false)) = .ok () ((((w5.setCell ⟨w.heap.size, 0, none⟩ v0).setCell ⟨w.heap.size, 1, none⟩ v1).setCell ⟨w.heap.size, 2, none⟩ v2).setCell ⟨w.heap.size, 3, none⟩ (.bool false)) := fun v0 v1 v2 => by
          rw [run_storeCells_at Tryd.prog (w.heap.size + 1) 0 63 z0.toList 0 z0 _ (hst v0 v1 v2) (by simp) (fun v hv => by rw [Array.all_eq_true_iff_forall_mem] at hone; exact hone v (Array.mem_toList_iff.1 hv))]
          have e : (List.take (0 + 0) z0.toList ++ z0.toList ++ List.drop (0 + 0 + z0.toList.length) z0.toList).toArray = z0 := by
            rw [show List.drop (0 + 0 + z0.toList.length) z0.toList = [] from List.drop_eq_nil_of_le (by simp)]; simp
          rw [e]; exact congrArg (Result.ok ()) (hsr v0 v1 v2)
        have HST := Lib.hid hst
        have HR4r := Lib.hid hR4r
        have hz := HZ.out
        have hbd := HBD.out
        clear hst hsr hR4r hR5r hne ht ht5 hb5 hbr hatc
        go_wp2_with fail
        have b1 := block_set HR4r.out 0 (.int .i64 0)
        have b2 := block_set b1 1 (.int .i64 0)
        have b3 := block_set b2 2 (.slice none 0 0)
        have b4 := block_set b3 3 (.bool false)
        simp at b4
        have hsz4 : (Tryd.prog.info? 42).map (·.size) = some 4 := by kernel_rfl
        have hlv4 := run_loadVar_row (P := Tryd.prog) _ w.heap.size 42 42 _ (0, 0) _ b4 Tryd.underlying42 rfl hsz4
        have hlv := run_loadVar_row (P := Tryd.prog) _ (w.heap.size + 1) 63 63 z0 (0, 0) _ (HST.out (.int .i64 0) (.int .i64 0) (.slice none 0 0)) Tryd.underlying63 rfl HSZ.out
        clear b1 b2 b3 b4
        refine bodyPost_ret (v := .tuple #[.agg #[.int .i64 0, .int .i64 0, .slice none 0 0, .bool false], .agg z0, .bool false]) ?_ rfl ⟨.inr ⟨by rw [hR.out, Ht.out, List.all_cons, HFT.out]; rfl, rfl⟩, ?_⟩
        · simp [results, Tryd.results64, asAddr, hlv4, hlv]
        · exact hb05.trans ((((Below.set 0 _).trans (Below.set 1 _)).trans (Below.set 2 _)).trans (Below.set 3 _))
    · obtain rfl : k = xs.length := by omega
      have hR4r := (ht.block _ (by omega) (by simp; omega)).trans HR4.out
      have hR5r := (ht.block _ (by omega) (by simp; omega)).trans HR5.out
      have h7 : wr.drew.heap[n7]? = some (.cells #[.int .i64 W, .int .i64 H, .slice a1 cells.length c1, .bool false] 42 (0, 0)) := hGr7
      have h8 : wr.drew.heap[n7 + 1]? = some (.cells (lstK xs xs.length) 63 (0, 0)) := hG9r.out
      have h4 : wr.drew.heap[w.heap.size]? = some (.cells #[.int .i64 0, .int .i64 0, .slice none 0 0, .bool false] 42 (0, 0)) := hR4r
      have h5 : wr.drew.heap[w.heap.size + 1]? = some (.cells z0 63 (0, 0)) := hR5r
      have hsz4 : (Tryd.prog.info? 42).map (·.size) = some (#[Value.int .i64 W, .int .i64 H, .slice a1 cells.length c1, .bool false] : Array Value).size := by kernel_rfl
      have hks := lstK_size (xs := xs) (k := xs.length) (Nat.le_refl _) hx
      have hszn : (Tryd.prog.info? 63).map (·.size) = some (lstK xs xs.length).size := by rw [HSZ.out, HLS.out, hks]
      have hone : (lstK xs xs.length).all (·.oneCell') = true := lstK_one xs xs.length
      have hzn : z0.size = (lstK xs xs.length).size := by rw [HLS.out, hks]
      clear hGr7 hf0 hf1 hf2 hf3 hR4r hR5r
      go_wp2_with fail
      refine wp_region_held (S := fun w' => w'.heap[n7]? = some (.cells #[.int .i64 W, .int .i64 H, .slice a1 cells.length c1, .bool false] 42 (0, 0)) ∧ w'.heap[n7 + 1]? = some (.cells (lstK xs xs.length) 63 (0, 0))) (by kernel_rfl) ?_
      change wpAnyH _ _ _ _ _ _ _ _ (World.drew wr)
      refine wpAnyH_take (i := 0) rfl (by kernel_rfl) (by kernel_rfl) (by kernel_rfl) (fun _ _ _ h => h) (yields_row rfl 42 _ rfl n7 (by rfl) 42 _ (0, 0) _ (fun _ h => h.1) Tryd.underlying42 rfl hsz4) ⟨h7, h8⟩ ?_
      refine wpAnyH_take (i := 1) rfl (by kernel_rfl) (by kernel_rfl) (by kernel_rfl) (fun _ _ _ h => h) (yields_row rfl 63 _ rfl (n7 + 1) (by rfl) 63 _ (0, 0) _ (fun _ h => h.2) Tryd.underlying63 rfl hszn) ⟨h7, h8⟩ ?_
      refine wpAnyH_all (rs := [2]) (by kernel_rfl) (by simp) (fun i hi => ?_)
      obtain rfl : i = 2 := by simpa using hi
      refine wpOp_step rfl (fun K' hK => ?_)
      rw [if_pos (by rfl)]
      refine wp_store_row 42 _ _ rfl w.heap.size #[.int .i64 W, .int .i64 H, .slice a1 cells.length c1, .bool false] (by rfl) (by rfl) 42 _ h4 hsz4 rfl (by simp [Value.oneCell']) (hK _ _ ⟨?_, ?_⟩)
      · exact ⟨(setRow_other _ _ _ _ (by omega)).trans h7, (setRow_other _ _ _ _ (by omega)).trans h8⟩
      refine wpAnyH_all (rs := [3]) (by kernel_rfl) (by simp) (fun i hi => ?_)
      obtain rfl : i = 3 := by simpa using hi
      refine wpOp_step rfl (fun K' hK => ?_)
      rw [if_pos (by rfl)]
      refine wp_store_row 63 _ _ rfl (w.heap.size + 1) (lstK xs xs.length) (by rfl) (by rfl) 63 z0 ((setRow_other _ _ _ _ (by omega)).trans h5) hszn hzn hone (hK _ _ ⟨?_, ?_⟩)
      · exact ⟨(setRow_other _ _ _ _ (by omega)).trans ((setRow_other _ _ _ _ (by omega)).trans h7), (setRow_other _ _ _ _ (by omega)).trans ((setRow_other _ _ _ _ (by omega)).trans h8)⟩
      refine wpAnyH_all (rs := [4]) (by kernel_rfl) (by simp) (fun i hi => ?_)
      obtain rfl : i = 4 := by simpa using hi
      refine wpOp_step rfl (fun K' hK => ?_)
      rw [if_pos (by rfl)]
      go_simp
      refine hK _ _ ⟨⟨(setRow_other _ _ _ _ (by omega)).trans ((setRow_other _ _ _ _ (by omega)).trans h7), (setRow_other _ _ _ _ (by omega)).trans ((setRow_other _ _ _ _ (by omega)).trans h8)⟩, ?_⟩
      refine wpAnyH_done (by kernel_rfl) ?_ _
      have r4 := (setRow_other (wr.drew.setRow w.heap.size #[.int .i64 W, .int .i64 H, .slice a1 cells.length c1, .bool false]) (w.heap.size + 1) w.heap.size (lstK xs xs.length) (by omega)).trans (setRow_heap wr.drew w.heap.size _ #[.int .i64 W, .int .i64 H, .slice a1 cells.length c1, .bool false] 42 (0, 0) h4)
      have r5 := setRow_heap (wr.drew.setRow w.heap.size #[.int .i64 W, .int .i64 H, .slice a1 cells.length c1, .bool false]) (w.heap.size + 1) z0 (lstK xs xs.length) 63 (0, 0) ((setRow_other _ _ _ _ (by omega)).trans h5)
      have hlv4 := run_loadVar_row (P := Tryd.prog) _ w.heap.size 42 42 _ (0, 0) _ r4 Tryd.underlying42 rfl hsz4
      have hlv5 := run_loadVar_row (P := Tryd.prog) _ (w.heap.size + 1) 63 63 _ (0, 0) _ r5 Tryd.underlying63 rfl hszn
      have howr := Owns.heapOf (w' := (wr.drew.setRow w.heap.size #[.int .i64 W, .int .i64 H, .slice a1 cells.length c1, .bool false]).setRow (w.heap.size + 1) (lstK xs xs.length)) hown3 (fun j hj => by
        have h1 := hbk j hj
        exact (setRow_other _ _ _ _ (by omega)).trans ((setRow_other _ _ _ _ (by omega)).trans (ht.block j (by omega) (by simp; omega))))
      have howf := howr.mono (B' := w.heap.size) (by omega)
      have hbe := below_setRow (below_setRow (hbr.drew) (Nat.le_refl _) #[.int .i64 W, .int .i64 H, .slice a1 cells.length c1, .bool false]) (show w.heap.size ≤ w.heap.size + 1 by omega) (lstK xs xs.length)
      have HAL : Hid (xs.all (freeOK l) = true) := by rw [Hid, hR.out, List.drop_length]; rfl
      clear h7 h8 h4 h5 r4 r5
      go_wp2_with fail
      refine bodyPost_ret (v := .tuple #[.agg #[.int .i64 W, .int .i64 H, .slice a1 cells.length c1, .bool false], .agg (lstK xs xs.length), .bool true]) ?_ rfl ⟨.inl ⟨HAL.out, a1, c1, ?_, ?_⟩, hbe⟩
      · simp [results, Tryd.results64, asAddr, hlv4, hlv5]
      · rw [HWE.out, HHE.out, HCE.out]
      · rw [HCE.out]; exact howf
end Go.Proofs.YtndmkbkmfonefacDoor
