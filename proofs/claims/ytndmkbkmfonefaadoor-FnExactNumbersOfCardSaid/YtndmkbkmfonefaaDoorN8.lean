/- Walks: NumbersOf, by the model and by the program. -/
import Derived.Test.YtndmkbkmfonefaaDoorN7
import Derived.Outline
namespace Go.Proofs.YtndmkbkmfonefaaDoor
open Go.RowKit

set_option maxRecDepth 100000 in
set_option maxHeartbeats 800000 in
theorem sNumbersOf_any (l : List UInt8) (w : World) (hl : l.length ≤ 1048576) :
    Calls Tryd.prog 28 #[.string ⟨l.toArray⟩] w fun e w' => ∃ a cap, e = .returned (.tuple #[.slice a (numsOf l).length cap, .bool (boGoodM l)]) ∧ Owns w' w.heap.size 3 (.slice a (numsOf l).length cap) (nats (numsOf l)) ∧ Below w.heap.size w w' := by
  by_cases hg : boGoodM l = true
  · have hB := Brd.of hg
    generalize headLen (splitB 47 l) = W at *
    generalize (splitB 47 l).length = H at *
    obtain ⟨g1, g2, g3⟩ := hB.grid
    have HN : Hid (numsOf l = numsM (cellsM l) W) := by rw [Hid, numsOf, g1, g3]
    have HG := Lib.hid hg
    clear g1 g2 g3
    go_enter Tryd.func28, Tryd.ntmps28
    go_wp2_with fail
    refine (boGood_any l _ hl).mono ?_
    rintro e w1 ⟨rfl, hb1⟩
    go_wp2_with fail
    refine (boNumbers_any l W H (cellsM l) _ hl hB).mono ?_
    rintro e w2 ⟨a, cap, rfl, hown, hb2⟩
    have s1 := hb1.size
    clear hg
    go_wp2_with fail
    go_ret2
    exact ⟨a, cap, by rw [HN.out, HG.out, numsM_length]; rfl, by rw [HN.out, numsM_length]; exact hown.mono s1, hb1.trans (hb2.mono s1)⟩
  · have hN : Hid (numsOf l = []) := by rw [Hid, numsOf, gCells, if_neg hg]; rfl
    have hg' : boGoodM l = false := by simpa using hg
    clear hg
    go_enter Tryd.func28, Tryd.ntmps28
    go_wp2_with (go_at_call 36; refine (boGood_any l _ hl).mono ?_; rintro e w1 ⟨rfl, hb1⟩)
    go_ret2
    exact ⟨none, 0, by rw [hN.out, hg']; rfl, by rw [hN.out]; exact Owns.nil _ _ _, hb1⟩

set_option maxRecDepth 100000 in
set_option maxHeartbeats 1600000 in
theorem numbersJ_any {J : Bool} (W H : Nat) (a : Option Addr) (cells : List UInt8) (cap : Nat) (w : World) (hat : At w a (byts cells)) (h64 : cells.length ≤ 64) (hw1 : 0 < cells.length → 1 ≤ W) (hJ : J = true → (1 ≤ W ∧ W ≤ 1048576) ∧ (1 ≤ H ∧ H ≤ 1048576)) :
    Calls Tryd.prog 49 #[.agg #[.int .i64 W, .int .i64 H, .slice a cells.length cap, .bool J]] w fun e w' => ∃ a' cap', e = .returned (.slice a' cells.length cap') ∧ Owns w' w.heap.size 3 (.slice a' cells.length cap') (nats (numsM cells (geoOf J W H))) ∧ Below w.heap.size w w' := by
  have hT : Hid (numsM cells (geoOf J W H) = numsGo cells (geoOf J W H) 0 cells.length) := rfl
  go_enter Tryd.func49, Tryd.ntmps49
  go_wp2_with fail
  have hG1 : (w.alloc (.cells #[.int .i64 W, .int .i64 H, .slice a cells.length cap, .bool J] 40)).heap[w.heap.size]? = some (.cells #[.int .i64 W, .int .i64 H, .slice a cells.length cap, .bool J] 40 (0, 0)) := heap_alloc_new w _
  have hw0 : Below w.heap.size w (w.alloc (.cells #[.int .i64 W, .int .i64 H, .slice a cells.length cap, .bool J] 40)) := (Below.refl _ _).alloc (Nat.le_refl _) _
  have hs0 : w.heap.size < (w.alloc (.cells #[.int .i64 W, .int .i64 H, .slice a cells.length cap, .bool J] 40)).heap.size := by simp
  have hat0 : At (w.alloc (.cells #[.int .i64 W, .int .i64 H, .slice a cells.length cap, .bool J] 40)) a (byts cells) := hat.later rfl hw0
  generalize w.alloc (.cells #[.int .i64 W, .int .i64 H, .slice a cells.length cap, .bool J] 40) = w0 at *
  have HG1 := Lib.hid hG1
  clear hG1
  go_loopw [3, 8] (fun v i wr => ∃ k : Nat, k ≤ cells.length ∧ i = .int .i64 k ∧ ∃ acc : List Nat, acc.length = k ∧ Owns wr (w.heap.size + 1) 3 v (nats acc) ∧ Below (w.heap.size + 1) w0 wr ∧ At wr a (byts cells) ∧ Hid (numsM cells (geoOf J W H) = acc ++ numsGo cells (geoOf J W H) k (cells.length - k))) (fun _ i _ => cells.length - (intOf i).toNat)
  case atStart => exact ⟨0, Nat.zero_le _, rfl, [], rfl, Owns.nil _ _ _, Below.refl _ _, hat0, by rw [Hid, hT.out]; simp⟩
  case round =>
    obtain ⟨k, hk, rfl, acc, hacc, hownr, hbr, hatr, hR⟩ := hrel
    have hGr : wr.heap[w.heap.size]? = some (.cells #[.int .i64 W, .int .i64 H, .slice a cells.length cap, .bool J] 40 (0, 0)) := by rw [hbr.block _ (by omega)]; exact HG1.out
    have hGlt := block_lt hGr
    have hf0 := cell_of_block hGr 0
    have hf1 := cell_of_block hGr 1
    have hf2 := cell_of_block hGr 2
    have hf3 := cell_of_block hGr 3
    simp at hf0 hf1 hf2 hf3
    clear hGr
    have HA := Lib.hid hacc
    have hacc' : acc.length ≤ k := by omega
    clear hacc
    by_cases hlt : k < cells.length
    · have hW1 := hw1 (by omega)
      go_wp2_with fail
      refine (numberJ_any W H a cells cap k _ hatr hW1 hlt h64 hJ).mono ?_
      rintro e w3 ⟨rfl, hb3⟩
      have s3 := hb3.size
      go_wp2_with (at_builtin; refine wpList_app1 rfl _ _ _ rfl _ _ _ _ elemInt _ _ _ _ rfl rfl rfl (hownr.later hb3) rfl (by simp; omega) (by omega) (by simp; omega) ?_; intro v1 w4 hown1 hb4 hs4)
      rw [nats_snoc] at hown1
      go_roundw
      case rel =>
        first
          | exact ⟨k + 1, by omega, by go_num, _, by simp [HA.out], hown1, (hbr.trans (hb3.mono (by omega))).trans hb4, (hatr.later rfl hb3).below hat (by omega) hb4, by rw [Hid, hR.out, show cells.length - k = (cells.length - (k + 1)) + 1 by omega, numsGo]; simp⟩
          | ((repeat apply Exists.intro); exact ⟨⟨k + 1, by omega, by go_num, _, by simp [HA.out], hown1, (hbr.trans (hb3.mono (by omega))).trans hb4, (hatr.later rfl hb3).below hat (by omega) hb4, by rw [Hid, hR.out, show cells.length - k = (cells.length - (k + 1)) + 1 by omega, numsGo]; simp⟩, rfl⟩)
      case measure => simp [intOf]; omega
    · obtain rfl : k = cells.length := by omega
      have hfin : acc = numsM cells (geoOf J W H) := by rw [hR.out]; simp [numsGo]
      go_wp2_with fail
      go_ret
      rw [hfin] at hownr
      obtain ⟨a', cap', hv⟩ := hownr.shape
      simp only [nats_length, numsM_length] at hv
      exact ⟨a', cap', by rw [← hv]; rfl, by rw [← hv]; exact hownr.mono (by omega), hw0.trans (hbr.mono (by omega))⟩

set_option maxRecDepth 100000 in
set_option maxHeartbeats 800000 in
theorem iNumbersOf_any (l : List UInt8) (w : World) (hM : HasMax w) (hl : l.length ≤ 1048576) :
    Calls Tryd.prog 29 #[.string ⟨l.toArray⟩] w fun e w' => ∃ a cap, e = .returned (.tuple #[.slice a (numsOf l).length cap, .bool (boGoodM l)]) ∧ Owns w' w.heap.size 3 (.slice a (numsOf l).length cap) (nats (numsOf l)) ∧ Below w.heap.size w w' := by
  have h64 := gCells_le l
  have hTl : Hid ((numsOf l).length = (gCells l).length) := by rw [Hid, numsOf, numsM_length]
  have hw1 : 0 < (gCells l).length → 1 ≤ gW l := fun h => by
    have := gCells_len l
    rcases Nat.eq_zero_or_pos (gW l) with h0 | h0
    · rw [h0] at this; omega
    · exact h0
  have hnb := fun w a cap h => numbersJ_any (J := false) (gW l) (gH l) a (gCells l) cap w h h64 hw1 nofun
  rw [show numsM (gCells l) (geoOf false (gW l) (gH l)) = numsOf l from rfl] at hnb
  have HNB := Lib.hid hnb
  clear hnb
  go_enter Tryd.func29, Tryd.ntmps29
  go_wp2_with fail
  refine (readBoard_any l _ hM hl).mono ?_
  rintro e w1 ⟨a, cap, rfl, hown, hb⟩
  have s1 := hb.size
  have hat : ∀ o, At (w1.alloc o) a (byts (gCells l)) := fun o => (hown.at).later rfl ((Below.refl _ _).alloc (Nat.le_refl _) _)
  go_wp2_with fail
  refine (HNB.out _ a cap (hat _)).mono ?_
  rintro e w2 ⟨a', cap', rfl, hown2, hb2⟩
  go_wp2_with fail
  go_ret2
  exact ⟨a', cap', by rw [hTl.out]; rfl, by rw [hTl.out]; exact hown2.mono (by simp; omega), (hb.alloc s1 _).trans (hb2.mono (by simp; omega))⟩
end Go.Proofs.YtndmkbkmfonefaaDoor
