/- Opening: the cells that a click opens, by the program. -/
import Derived.Test.YtndmkbkmfonefacDoorY5
import Derived.Outline
namespace Go.Proofs.YtndmkbkmfonefacDoor
open Go.RowKit

set_option maxRecDepth 100000 in
theorem pickOpen1_any (k c b : Nat) (L : List Nat) (w : World) (hc : w.cell? ⟨c, 0, none⟩ = some (.map (some b))) (hM : Marks w b L) (hk : k < 1099511627776) :
    Calls Tryd.prog 90 #[.int .i64 (k : Int), .pointer (some ⟨c, 0, none⟩)] w fun e w' => e = .returned (.bool (decide (k ∈ L))) ∧ w = w' := by
  have Hk : Hid (decide (k ∈ L) = decide (k ∈ L)) := rfl
  generalize hv : decide (k ∈ L) = v at *
  have Hv := Lib.hid hv
  clear hv Hk
  go_enter Tryd.func90, Tryd.ntmps90
  go_wp2_with (at_lookup; refine wpList_mark_look rfl _ _ rfl b _ rfl hM _ rfl hk v Hv.out ?_)
  go_ret
  exact ⟨rfl, rfl⟩
theorem enters_pickOpen1 (args : Array Value) (w' : World) : (callFunc 90 args).run Tryd.prog w' = .ok (.enter 90 args) w' := by
  go_simp

set_option maxRecDepth 100000 in
set_option maxHeartbeats 800000 in
theorem pickOpen_any {J : Bool} (W H : Nat) (a : Option Addr) (n cap : Nat) (b : Nat) (L : List Nat) (w : World) (hM : Marks w b L) (hn : n ≤ 64) :
    Calls Tryd.prog 78 #[.agg #[.int .i64 W, .int .i64 H, .slice a n cap, .bool J], .map (some b)] w fun e w' => ∃ a' cap', e = .returned (.slice a' (sortM n L).length cap') ∧ Owns w' w.heap.size 3 (.slice a' (sortM n L).length cap') (nats (sortM n L)) ∧ Below w.heap.size w w' := by
  have hbl := hM.lt
  go_enter Tryd.func78, Tryd.ntmps78
  go_wp2_with fail
  have hb2 : Below w.heap.size w ((w.alloc (.cells #[.int .i64 W, .int .i64 H, .slice a n cap, .bool J] 42)).alloc (.cells #[.map (some b)] 66)) := ((Below.refl _ w).alloc (Nat.le_refl _) _).alloc (by simp) _
  have hG : ((w.alloc (.cells #[.int .i64 W, .int .i64 H, .slice a n cap, .bool J] 42)).alloc (.cells #[.map (some b)] 66)).heap[w.heap.size + 1]? = some (.cells #[.map (some b)] 66 (0, 0)) := by
    have := heap_alloc_new (w.alloc (.cells #[.int .i64 W, .int .i64 H, .slice a n cap, .bool J] 42)) (.cells #[.map (some b)] 66)
    simpa using this
  have hM2 := hM.later hb2
  have hs2 : ((w.alloc (.cells #[.int .i64 W, .int .i64 H, .slice a n cap, .bool J] 42)).alloc (.cells #[.map (some b)] 66)).heap.size = w.heap.size + 2 := by simp
  generalize (w.alloc (.cells #[.int .i64 W, .int .i64 H, .slice a n cap, .bool J] 42)).alloc (.cells #[.map (some b)] 66) = w2 at *
  refine (pick_any W H a n cap (fun k => decide (k ∈ L)) 90 #[] #[.pointer (some ⟨w.heap.size + 1, 0, none⟩)] w2 hn enters_pickOpen1 ?_).mono ?_
  · intro w' k hb' hk
    have hc : w'.cell? ⟨w.heap.size + 1, 0, none⟩ = some (.map (some b)) := by
      have := cell_of_block ((hb'.block (w.heap.size + 1) (by omega)).trans hG) 0
      simpa using this
    refine (pickOpen1_any k (w.heap.size + 1) b L w' hc (hM2.later hb') (by omega)).mono ?_
    rintro e w3 ⟨rfl, rfl⟩
    exact ⟨rfl, Below.refl _ _⟩
  · rintro e w3 ⟨a', cap', rfl, hown3, hb3⟩
    go_wp2_with fail
    go_ret
    exact ⟨a', cap', rfl, hown3.mono (by omega), hb2.trans (hb3.mono (by omega))⟩

/-- The cells that a click on a cell opens, increasing. -/
def opM (cells : List UInt8) (W : Geo) (c : Nat) : List Nat := sortM cells.length (bfs (nearM W cells.length) (zeroB cells W) [] cells.length 0 [c])
theorem opM_le (cells : List UInt8) (W : Geo) (c : Nat) : (opM cells W c).length ≤ cells.length := sortM_le _ _

set_option maxRecDepth 100000 in
set_option maxHeartbeats 800000 in
theorem openedByJ_any {J : Bool} (W H : Nat) (a : Option Addr) (cells : List UInt8) (cap c : Nat) (w : World) (hat : At w a (byts cells)) (hW : 1 ≤ W) (h64 : cells.length ≤ 64) (hc : c < cells.length) (hJ : J = true → (1 ≤ W ∧ W ≤ 1048576) ∧ (1 ≤ H ∧ H ≤ 1048576)) :
    Calls Tryd.prog 48 #[.agg #[.int .i64 W, .int .i64 H, .slice a cells.length cap, .bool J], .int .i64 c] w fun e w' => ∃ a' cap', e = .returned (.slice a' (opM cells (geoOf J W H) c).length cap') ∧ Owns w' w.heap.size 3 (.slice a' (opM cells (geoOf J W H) c).length cap') (nats (opM cells (geoOf J W H) c)) ∧ Below w.heap.size w w' := by
  have HO : Hid (opM cells (geoOf J W H) c = sortM cells.length ([] ++ bfs (nearM (geoOf J W H) cells.length) (zeroB cells (geoOf J W H)) [] cells.length 0 [c])) := rfl
  have hb0 : Below w.heap.size w (w.alloc (.cells #[.int .i64 W, .int .i64 H, .slice a cells.length cap, .bool J] 42)) := (Below.refl _ _).alloc (Nat.le_refl _) _
  have hG0 : (w.alloc (.cells #[.int .i64 W, .int .i64 H, .slice a cells.length cap, .bool J] 42)).heap[w.heap.size]? = some (.cells #[.int .i64 W, .int .i64 H, .slice a cells.length cap, .bool J] 42 (0, 0)) := heap_alloc_new w _
  have hs0 : (w.alloc (.cells #[.int .i64 W, .int .i64 H, .slice a cells.length cap, .bool J] 42)).heap.size = w.heap.size + 1 := by simp
  have hmm := @run_makeMap Tryd.prog
  go_enter Tryd.func48, Tryd.ntmps48
  go_wp2_with fail
  have hf0 := cell_of_block hG0 0
  have hf1 := cell_of_block hG0 1
  have hf2 := cell_of_block hG0 2
  have hf3 := cell_of_block hG0 3
  have hat0 : At (w.alloc (.cells #[.int .i64 W, .int .i64 H, .slice a cells.length cap, .bool J] 42)) a (byts cells) := hat.later rfl hb0
  generalize w.alloc (.cells #[.int .i64 W, .int .i64 H, .slice a cells.length cap, .bool J] 42) = w0 at *
  have hb1 : Below w0.heap.size w0 (w0.alloc (.map #[] 0)) := (Below.refl _ _).alloc (Nat.le_refl _) _
  have hM1 := Marks.made w0
  have hat1 := hat0.later rfl hb1
  rw [hs0] at hM1
  have HG0 := Lib.hid hG0
  have HS0 := Lib.hid hs0
  clear hG0 hf0 hf1 hf2 hf3 hmm hs0
  refine (clickJ_any W H a cells cap (w.heap.size + 1) [] c _ hat1 hM1 (by simp) hW h64 hc hJ).mono ?_
  rintro e w2 ⟨rfl, hM2, ht2⟩
  have hs1 : w0.heap.size < (w0.alloc (.map #[] 0)).heap.size := by simp
  have hG2 : w2.heap[w.heap.size]? = some (.cells #[.int .i64 W, .int .i64 H, .slice a cells.length cap, .bool J] 42 (0, 0)) := by
    rw [ht2.block _ (by have := HS0.out; omega) (by simp), hb1.block _ (by have := HS0.out; omega)]
    exact HG0.out
  have hf0 := cell_of_block hG2 0
  have hf1 := cell_of_block hG2 1
  have hf2 := cell_of_block hG2 2
  have hf3 := cell_of_block hG2 3
  simp at hf0 hf1 hf2 hf3
  have hb2 : Below w.heap.size w w2 := (hb0.trans (hb1.mono (by have := HS0.out; omega))).trans (ht2.below (by omega) (by have := HS0.out; omega))
  have hG2lt := block_lt hG2
  clear hG2 ht2 hb1 hat1 hM1 hs1 hb0
  go_wp2_with fail
  refine (pickOpen_any W H a cells.length cap (w.heap.size + 1) _ _ hM2 h64).mono ?_
  rintro e w3 ⟨a', cap', rfl, hown3, hb3⟩
  rw [← HO.out] at hown3 ⊢
  go_wp2_with fail
  go_ret
  exact ⟨a', cap', rfl, hown3.mono (by omega), hb2.trans (hb3.mono (by omega))⟩
/-- The same where rows are not joined. -/
theorem openedBy_any (W H : Nat) (a : Option Addr) (cells : List UInt8) (cap c : Nat) (w : World) (hat : At w a (byts cells)) (hW : 1 ≤ W) (h64 : cells.length ≤ 64) (hc : c < cells.length) :
    Calls Tryd.prog 48 #[.agg #[.int .i64 W, .int .i64 H, .slice a cells.length cap, .bool false], .int .i64 c] w fun e w' => ∃ a' cap', e = .returned (.slice a' (opM cells W c).length cap') ∧ Owns w' w.heap.size 3 (.slice a' (opM cells W c).length cap') (nats (opM cells W c)) ∧ Below w.heap.size w w' :=
  openedByJ_any W H a cells cap c w hat hW h64 hc nofun
end Go.Proofs.YtndmkbkmfonefacDoor
