/- Clicks read by the program, walked. -/
import Derived.Test.YtndmkbkmfonefacDoorV4
import Derived.Test.YtndmkbkmfonefacDoorYF
import Derived.Outline
import Derived.Laws.Rows
import Derived.Laws.Tables
import Derived.Laws.CopyRow
namespace Go.Proofs.YtndmkbkmfonefacDoor
open Go.RowKit

theorem blockAway {w : World} {g b : Nat} (h : b ≠ g) (j : Nat) (v : Value) : (w.setCell ⟨g, j, none⟩ v).heap[b]? = w.heap[b]? := by
  simp [World.setCell, Array.getElem?_modify, Ne.symm h]

set_option maxRecDepth 100000 in
set_option maxHeartbeats 800000 in
theorem readClicks_bad (l : List UInt8) (xs : List Int) (a : Option Addr) (cap : Nat) (w : World) (hM : HasMax w) (hl : l.length ≤ 1048576) (_hat : At w a (ints xs)) (hx : xs.length ≤ 1048576) (hg : boGoodM l = false ∨ (boGoodM l = true ∧ 64 < xs.length)) :
    Calls Tryd.prog 64 #[.string ⟨l.toArray⟩, .slice a xs.length cap] w fun e w' => e = .returned (.tuple #[.agg #[.int .i64 0, .int .i64 0, .slice none 0 0, .bool false], .agg (lst []), .bool false]) ∧ Below w.heap.size w w' := by
  have hz : ∀ w : World, (zeroValue 63).run Tryd.prog w = .ok (.agg (lst [])) w := fun w => by kernel_rfl
  have hbd : Tryd.prog.built 63 [] = some (lst []) := by kernel_rfl
  have hls : (lst []).size = 65 := rfl
  have hrb := fun w h => readBoard_any l w h hl
  generalize gW l = W at *
  generalize gH l = H at *
  generalize gCells l = cells at *
  generalize boGoodM l = g at *
  have hsz : (Tryd.prog.info? 63).map (·.size) = some (lst []).size := by kernel_rfl
  have hone : (lst []).all (·.oneCell') = true := by kernel_rfl
  generalize lst [] = z0 at *
  go_enter Tryd.func64, Tryd.ntmps64
  go_wp2_with fail
  have hb0 : Below w.heap.size w ((w.alloc (.cells #[.int .i64 0, .int .i64 0, .slice none 0 0, .bool false] 42)).alloc (.cells z0 63)) := ((Below.refl _ _).alloc (Nat.le_refl _) _).alloc (by simp) _
  have hs0 : ((w.alloc (.cells #[.int .i64 0, .int .i64 0, .slice none 0 0, .bool false] 42)).alloc (.cells z0 63)).heap.size = w.heap.size + 2 := by simp
  have hR4 : ((w.alloc (.cells #[.int .i64 0, .int .i64 0, .slice none 0 0, .bool false] 42)).alloc (.cells z0 63)).heap[w.heap.size]? = some (.cells #[.int .i64 0, .int .i64 0, .slice none 0 0, .bool false] 42 (0, 0)) := by
    have h1 : Below (w.heap.size + 1) (w.alloc (.cells #[.int .i64 0, .int .i64 0, .slice none 0 0, .bool false] 42)) ((w.alloc (.cells #[.int .i64 0, .int .i64 0, .slice none 0 0, .bool false] 42)).alloc (.cells z0 63)) := (Below.refl _ _).alloc (by simp) _
    rw [h1.block _ (by omega)]
    exact heap_alloc_new w _
  have hR5 : ((w.alloc (.cells #[.int .i64 0, .int .i64 0, .slice none 0 0, .bool false] 42)).alloc (.cells z0 63)).heap[w.heap.size + 1]? = some (.cells z0 63 (0, 0)) := by
    have h2 := heap_alloc_new (w.alloc (.cells #[.int .i64 0, .int .i64 0, .slice none 0 0, .bool false] 42)) (.cells z0 63)
    simpa using h2
  generalize (w.alloc (.cells #[.int .i64 0, .int .i64 0, .slice none 0 0, .bool false] 42)).alloc (.cells z0 63) = w0 at *
  refine (hrb _ (hM.later hb0)).mono ?_
  rintro e w1 ⟨a1, c1, rfl, hown1, hb1⟩
  go_upto_region 2 with fail
  have s1 := hb1.size
  have hb2 : Below w0.heap.size w0 (w1.alloc (.cells #[.int .i64 W, .int .i64 H, .slice a1 cells.length c1, .bool false] 42)) := hb1.alloc s1 _
  generalize w1.alloc (.cells #[.int .i64 W, .int .i64 H, .slice a1 cells.length c1, .bool false] 42) = w2 at *
  have hR4' := (hb2.block _ (by omega)).trans hR4
  have hR5' := (hb2.block _ (by omega)).trans hR5
  have hq0 := frozen_of_block hR4' 0
  have hq1 := frozen_of_block hR4' 1
  have hq2 := frozen_of_block hR4' 2
  have hq3 := frozen_of_block hR4' 3
  have hf0 := cell_of_block hR4' 0
  have hf1 := cell_of_block hR4' 1
  have hf2 := cell_of_block hR4' 2
  have hf3 := cell_of_block hR4' 3
  simp at hf0 hf1 hf2 hf3
  have HR4 := Lib.hid hR4'
  have HR5 := Lib.hid hR5'
  have hb02 : Below w.heap.size w w2 := hb0.trans (hb2.mono (by omega))
  clear hR4 hR5 hR4' hR5' hown1 hb1 hb0 hb2 hrb
  have hne : w.heap.size + 1 ≠ w.heap.size := by omega
  have hst : ∀ v0 v1 v2, ((((w2.setCell ⟨w.heap.size, 0, none⟩ v0).setCell ⟨w.heap.size, 1, none⟩ v1).setCell ⟨w.heap.size, 2, none⟩ v2).setCell ⟨w.heap.size, 3, none⟩ (.bool false)).heap[w.heap.size + 1]? = some (.cells z0 63 (0, 0)) := fun v0 v1 v2 =>
    (blockAway hne 3 _).trans ((blockAway hne 2 _).trans ((blockAway hne 1 _).trans ((blockAway hne 0 _).trans HR5.out)))
  have hsr := fun v0 v1 v2 => setRow_self _ (w.heap.size + 1) z0 _ _ (hst v0 v1 v2)
  have hsc : ∀ v0 v1 v2, (storeCells ⟨w.heap.size + 1, 0, none⟩ z0.toList).run Tryd.prog ((((w2.setCell ⟨w.heap.size, 0, none⟩ v0).setCell ⟨w.heap.size, 1, none⟩ v1).setCell ⟨w.heap.size, 2, none⟩ v2).setCell ⟨w.heap.size, 3, none⟩ (.bool false)) = .ok () ((((w2.setCell ⟨w.heap.size, 0, none⟩ v0).setCell ⟨w.heap.size, 1, none⟩ v1).setCell ⟨w.heap.size, 2, none⟩ v2).setCell ⟨w.heap.size, 3, none⟩ (.bool false)) := fun v0 v1 v2 => by
    rw [run_storeCells_at Tryd.prog (w.heap.size + 1) 0 63 z0.toList 0 z0 _ (hst v0 v1 v2) (by simp) (fun v hv => by rw [Array.all_eq_true_iff_forall_mem] at hone; exact hone v (Array.mem_toList_iff.1 hv))]
    have e : (List.take (0 + 0) z0.toList ++ z0.toList ++ List.drop (0 + 0 + z0.toList.length) z0.toList).toArray = z0 := by
      rw [show List.drop (0 + 0 + z0.toList.length) z0.toList = [] from List.drop_eq_nil_of_le (by simp)]; simp
    rw [e]; exact congrArg (Result.ok ()) (hsr v0 v1 v2)
  have HST := Lib.hid hst
  clear hst hsr
  rcases hg with rfl | ⟨rfl, h64⟩
  all_goals
   go_wp2_with fail
   have b1 := block_set HR4.out 0 (.int .i64 0)
   have b2 := block_set b1 1 (.int .i64 0)
   have b3 := block_set b2 2 (.slice none 0 0)
   have b4 := block_set b3 3 (.bool false)
   simp at b4
   have hsz4 : (Tryd.prog.info? 42).map (·.size) = some 4 := by kernel_rfl
   have hlv4 := run_loadVar_row (P := Tryd.prog) _ w.heap.size 42 42 _ (0, 0) _ b4 Tryd.underlying42 rfl hsz4
   have hlv := run_loadVar_row (P := Tryd.prog) _ (w.heap.size + 1) 63 63 z0 (0, 0) _ (HST.out (.int .i64 0) (.int .i64 0) (.slice none 0 0)) Tryd.underlying63 rfl hsz
   clear b1 b2 b3 b4
   refine bodyPost_ret (v := .tuple #[.agg #[.int .i64 0, .int .i64 0, .slice none 0 0, .bool false], .agg z0, .bool false]) ?_ rfl ⟨rfl, ?_⟩
   · simp [results, Tryd.results64, asAddr, hlv4, hlv]
   · exact hb02.trans ((((Below.set 0 _).trans (Below.set 1 _)).trans (Below.set 2 _)).trans (Below.set 3 _))
end Go.Proofs.YtndmkbkmfonefacDoor
