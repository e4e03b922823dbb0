/- Joined boards by the program: all cells one step down, or to the right. -/
import Derived.Test.YtggjponlgndghaaDoorOC
import Derived.Test.YtggjponlgndghaaDoorGYF
import Derived.Test.YtggjponlgndghaaDoorH5
import Derived.BigQuiet
namespace Go.Proofs.YtggjponlgndghaaDoor
open Go.RowKit

/-- The last row comes first. -/
def dnM (W : Nat) (cells : List UInt8) : List UInt8 := cells.drop (cells.length - W) ++ cells.take (cells.length - W)
theorem dnM_length (W : Nat) (cells : List UInt8) : (dnM W cells).length = cells.length := by
  simp [dnM]

theorem at_two (w : World) (v1 v2 : Value) (e : Nat) : At (w.alloc (.cells #[v1, v2] e)).drew (some ⟨w.heap.size, 0, none⟩) [v1, v2] := by
  have h := heap_alloc_new w (.cells #[v1, v2] e)
  intro j hj
  refine ⟨w.heap.size, 0, rfl, ?_⟩
  have h2 := cell_of_block h j
  rw [Nat.zero_add]
  refine Eq.trans (b := (w.alloc (.cells #[v1, v2] e)).cell? ⟨w.heap.size, j, none⟩) rfl (h2.trans ?_)
  simp at hj
  obtain rfl | rfl : j = 0 ∨ j = 1 := by omega
  · rfl
  · rfl

set_option maxRecDepth 100000 in
set_option maxHeartbeats 1600000 in
theorem toDown_any (W H : Nat) (J : Bool) (a : Option Addr) (cells : List UInt8) (cap : Nat) (w : World) (hat : At w a (byts cells)) (hcap : cells.length ≤ cap) (hW : 1 ≤ W) (hWn : W ≤ cells.length) (h64 : cells.length ≤ 64) :
    Calls Tryd.prog 68 #[.agg #[.int .i64 W, .int .i64 H, .slice a cells.length cap, .bool J]] w fun e w' => ∃ a' cap', e = .returned (.agg #[.int .i64 W, .int .i64 H, .slice a' cells.length cap', .bool J]) ∧
      Owns w' w.heap.size 5 (.slice a' cells.length cap') (byts (dnM W cells)) ∧ Below w.heap.size w w' := by
  obtain ⟨b, off, rfl, hc0⟩ := byts_at hat 0 (by omega)
  obtain ⟨m, hm⟩ : ∃ m, m + W = cells.length := ⟨cells.length - W, by omega⟩
  have hDL := Lib.hid (dnM_length W cells)
  have hD : Hid (dnM W cells = cells.drop m ++ cells.take m) := by rw [Hid, dnM, ← hm, Nat.add_sub_cancel]
  have hl1 : (cells.drop m).length = W := by simp; omega
  have hl2 : (cells.take m).length = m := by simp; omega
  have hm1 : ((cells.length : Int) - (W : Int)) = (m : Int) := by omega
  have hr1 := hat.dropped m
  rw [byts_drop] at hr1
  have hr2 := hat.taken m
  rw [byts_take] at hr2
  clear hc0
  have hmn : m ≤ cells.length := by omega
  have hmc : m ≤ cap := by omega
  have hne : ¬ cap = m := by omega
  have hmW : cells.length - m = W := by omega
  have hb0 : Below w.heap.size w ((w.alloc (.cells #[.int .i64 W, .int .i64 H, .slice (some ⟨b, off, none⟩) cells.length cap, .bool J] 43)).alloc (.cells #[.int .i64 0, .int .i64 0, .slice none 0 0, .bool false] 43)) := ((Below.refl _ w).alloc (Nat.le_refl _) _).alloc (by simp) _
  have hG0 : ((w.alloc (.cells #[.int .i64 W, .int .i64 H, .slice (some ⟨b, off, none⟩) cells.length cap, .bool J] 43)).alloc (.cells #[.int .i64 0, .int .i64 0, .slice none 0 0, .bool false] 43)).heap[w.heap.size]? = some (.cells #[.int .i64 W, .int .i64 H, .slice (some ⟨b, off, none⟩) cells.length cap, .bool J] 43 (0, 0)) := by
    rw [(((Below.refl _ (w.alloc (.cells #[.int .i64 W, .int .i64 H, .slice (some ⟨b, off, none⟩) cells.length cap, .bool J] 43))).alloc (Nat.le_refl _) _).block _ (by simp))]
    exact heap_alloc_new w _
  have hR0 : ((w.alloc (.cells #[.int .i64 W, .int .i64 H, .slice (some ⟨b, off, none⟩) cells.length cap, .bool J] 43)).alloc (.cells #[.int .i64 0, .int .i64 0, .slice none 0 0, .bool false] 43)).heap[w.heap.size + 1]? = some (.cells #[.int .i64 0, .int .i64 0, .slice none 0 0, .bool false] 43 (0, 0)) := by
    have := heap_alloc_new (w.alloc (.cells #[.int .i64 W, .int .i64 H, .slice (some ⟨b, off, none⟩) cells.length cap, .bool J] 43)) (.cells #[.int .i64 0, .int .i64 0, .slice none 0 0, .bool false] 43)
    simpa using this
  have hs0 : ((w.alloc (.cells #[.int .i64 W, .int .i64 H, .slice (some ⟨b, off, none⟩) cells.length cap, .bool J] 43)).alloc (.cells #[.int .i64 0, .int .i64 0, .slice none 0 0, .bool false] 43)).heap.size = w.heap.size + 2 := by simp
  go_enter Tryd.func68, Tryd.ntmps68
  go_wp2_with fail
  generalize (w.alloc (.cells #[.int .i64 W, .int .i64 H, .slice (some ⟨b, off, none⟩) cells.length cap, .bool J] 43)).alloc (.cells #[.int .i64 0, .int .i64 0, .slice none 0 0, .bool false] 43) = w0 at *
  have hf0 := cell_of_block hG0 0
  have hf1 := cell_of_block hG0 1
  have hf2 := cell_of_block hG0 2
  have hf3 := cell_of_block hG0 3
  simp at hf0 hf1 hf2 hf3
  have HS0 := Lib.hid hs0
  have HG0 := Lib.hid hG0
  have HR0 := Lib.hid hR0
  have HB0 := Lib.hid hb0
  clear hs0 hG0 hR0 hb0
  have hst : Below w.heap.size w (w0.alloc (.cells #[.slice (some ⟨b, off + m, none⟩) W (cap - m), .slice (some ⟨b, off, none⟩) m cap] 41)).drew := HB0.out.trans (((Below.refl _ w0).alloc (by have := HS0.out; omega) _ : Below w.heap.size w0 _).trans (⟨rfl, rfl, rfl, Nat.le_refl _, fun _ _ => rfl⟩))
  have hcc := concat2_any (some ⟨w0.heap.size, 0, none⟩) (some ⟨b, off + m, none⟩) (some ⟨b, off, none⟩) (cells.drop m) (cells.take m) 2 (cap - m) cap (w0.alloc (.cells #[.slice (some ⟨b, off + m, none⟩) W (cap - m), .slice (some ⟨b, off, none⟩) m cap] 41)).drew
    (by rw [hl1, hl2]; exact at_two w0 _ _ _) (hr1.later rfl hst) (hr2.later rfl hst) (by omega) (by omega)
  rw [← hD.out, hDL.out] at hcc
  have hbs : Below w0.heap.size w0 (w0.alloc (.cells #[.slice (some ⟨b, off + m, none⟩) W (cap - m), .slice (some ⟨b, off, none⟩) m cap] 41)).drew := ((Below.refl _ w0).alloc (Nat.le_refl _) _ : Below w0.heap.size w0 _).trans (⟨rfl, rfl, rfl, Nat.le_refl _, fun _ _ => rfl⟩)
  have HCC := Lib.hid hcc
  have HBS := Lib.hid hbs
  clear hcc hst hr1 hr2 hbs
  go_region_law (first
    | (go_simp; go_at_call 75; refine HCC.out.mono ?_; rintro e w5 ⟨a5, cap5, rfl, hown5, hb5⟩;
       have hb05 := HBS.out.trans (hb5.mono HBS.out.size); have hG5 := (hb05.block w.heap.size (by have := HS0.out; omega)).trans HG0.out; have hqg := frozen_of_block hG5 2; have hcg := cell_of_block hG5 2; simp at hcg;
       have hR5 := (hb05.block (w.heap.size + 1) (by have := HS0.out; omega)).trans HR0.out;
       have hG6 := block_set hG5 2 (.slice a5 cells.length cap5);
       have hR6 := (awayH (w := w5) (show w.heap.size + 1 ≠ w.heap.size by omega) 2 (.slice a5 cells.length cap5)).trans hR5;
       have hg0 := cell_of_block hG6 0; have hg1 := cell_of_block hG6 1; have hg2 := cell_of_block hG6 2; have hg3 := cell_of_block hG6 3;
       have hR0' := cell_of_block hR6 0; have hR1' := cell_of_block hR6 1; have hR2' := cell_of_block hR6 2; have hR3' := cell_of_block hR6 3;
       simp at hg0 hg1 hg2 hg3 hR0' hR1' hR2' hR3';
       have hq0 := frozen_of_block hR6 0; have hq1 := frozen_of_block hR6 1; have hq2 := frozen_of_block hR6 2; have hq3 := frozen_of_block hR6 3;
       have HR := Lib.hid hR6; have HX := Lib.hid hown5; have HB5 := Lib.hid hb05; clear hG5 hG6 hR6 hR5 hown5 hb05 hb5))
  all_goals
    clear hf0 hf1 hf2 hf3 hqg hcg
    have hs5 := HB5.out.size
    have hs6 := HBS.out.size
    have hs7 := HS0.out
    go_wp2_with fail
    have b3 := block_set (block_set (block_set (block_set HR.out 0 (.int .i64 W)) 1 (.int .i64 H)) 2 (.slice a5 cells.length cap5)) 3 (.bool J)
    have hv5 : (Value.slice a5 cells.length cap5).ownBlock ≠ some w.heap.size := fun h => by
      have := (Owns.lt HX.out _ h).1
      omega
    have hv6 : (Value.slice a5 cells.length cap5).ownBlock ≠ some (w.heap.size + 1) := fun h => by
      have := (Owns.lt HX.out _ h).1
      omega
    refine bodyPost_ret (v := .agg #[.int .i64 W, .int .i64 H, .slice a5 cells.length cap5, .bool J]) ?_ rfl ?_
    · have r0 := cell_of_block b3 0
      have r1 := cell_of_block b3 1
      have r2 := cell_of_block b3 2
      have r3 := cell_of_block b3 3
      simp at r0 r1 r2 r3
      simp [results, Tryd.results68, go_sem, r0, r1, r2, r3]
    · refine ⟨_, cap5, rfl, ((((((HX.out.mono (by omega)).setOther _ _ _ hv5).setOther _ _ _ hv6).setOther _ _ _ hv6).setOther _ _ _ hv6).setOther _ _ _ hv6), ?_⟩
      exact ((HB0.out.trans (HB5.out.mono (by omega))).trans (Below.set 2 _)).trans (((((Below.set 0 _).trans (Below.set 1 _)).trans (Below.set 2 _)).trans (Below.set 3 _)).mono (by omega))
end Go.Proofs.YtggjponlgndghaaDoor
