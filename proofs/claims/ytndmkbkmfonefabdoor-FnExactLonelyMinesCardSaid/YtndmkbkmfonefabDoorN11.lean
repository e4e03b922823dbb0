/- Walks: zeros and lonely mines, by the model and by the program. -/
import Derived.Test.YtndmkbkmfonefabDoorN10
import Derived.Outline
namespace Go.Proofs.YtndmkbkmfonefabDoor
open Go.RowKit

set_option maxRecDepth 100000 in
set_option maxHeartbeats 800000 in
theorem iZerosOf_any (l : List UInt8) (w : World) (hM : HasMax w) (hl : l.length ≤ 1048576) :
    Calls Tryd.prog 24 #[.string ⟨l.toArray⟩] w fun e w' => ∃ a cap, e = .returned (.tuple #[.slice a (zOf 46 l).length cap, .bool (boGoodM l)]) ∧ Owns w' w.heap.size 3 (.slice a (zOf 46 l).length cap) (nats (zOf 46 l)) ∧ Below w.heap.size w w' := by
  have hgl := gCells_le l
  have hG : Hid (zOf 46 l = zGo (gCells l) (gW l) 46 0 (gCells l).length) := rfl
  have hw1 : 0 < (gCells l).length → 1 ≤ gW l := fun h => by
    have := gCells_len l
    rcases Nat.eq_zero_or_pos (gW l) with h0 | h0
    · rw [h0] at this; omega
    · exact h0
  go_enter Tryd.func24, Tryd.ntmps24
  go_wp2_with fail
  refine (readBoard_any l _ hM hl).mono ?_
  rintro e w1 ⟨a, cap, rfl, hown, hb⟩
  have hat : ∀ o, At (w1.alloc o) a (byts (gCells l)) := fun o => (hown.at).later rfl ((Below.refl _ _).alloc (Nat.le_refl _) _)
  go_wp2_with fail
  refine (without_any _ _ _ _ _ 46 _ rfl _ (hat _) hgl hw1).mono ?_
  rintro e w2 ⟨a', cap', rfl, hown2, hb2⟩
  go_wp2_with fail
  go_ret2
  refine ⟨a', cap', by rw [hG.out]; rfl, by rw [hG.out]; exact hown2.mono (by have := hb.size; simp; omega), (hb.alloc hb.size _).trans (hb2.mono (by have := hb.size; simp; omega))⟩

set_option maxRecDepth 100000 in
set_option maxHeartbeats 800000 in
theorem iLonelyMines_any (l : List UInt8) (w : World) (hM : HasMax w) (hl : l.length ≤ 1048576) :
    Calls Tryd.prog 29 #[.string ⟨l.toArray⟩] w fun e w' => ∃ a cap, e = .returned (.tuple #[.slice a (zOf 42 l).length cap, .bool (boGoodM l)]) ∧ Owns w' w.heap.size 3 (.slice a (zOf 42 l).length cap) (nats (zOf 42 l)) ∧ Below w.heap.size w w' := by
  have hgl := gCells_le l
  have hG : Hid (zOf 42 l = zGo (gCells l) (gW l) 42 0 (gCells l).length) := rfl
  have hw1 : 0 < (gCells l).length → 1 ≤ gW l := fun h => by
    have := gCells_len l
    rcases Nat.eq_zero_or_pos (gW l) with h0 | h0
    · rw [h0] at this; omega
    · exact h0
  go_enter Tryd.func29, Tryd.ntmps29
  go_wp2_with fail
  refine (readBoard_any l _ hM hl).mono ?_
  rintro e w1 ⟨a, cap, rfl, hown, hb⟩
  have hat : ∀ o, At (w1.alloc o) a (byts (gCells l)) := fun o => (hown.at).later rfl ((Below.refl _ _).alloc (Nat.le_refl _) _)
  go_wp2_with fail
  refine (without_any _ _ _ _ _ 42 _ rfl _ (hat _) hgl hw1).mono ?_
  rintro e w2 ⟨a', cap', rfl, hown2, hb2⟩
  go_wp2_with fail
  go_ret2
  refine ⟨a', cap', by rw [hG.out]; rfl, by rw [hG.out]; exact hown2.mono (by have := hb.size; simp; omega), (hb.alloc hb.size _).trans (hb2.mono (by have := hb.size; simp; omega))⟩

set_option maxRecDepth 100000 in
set_option maxHeartbeats 3200000 in
theorem sZerosOf_any (l : List UInt8) (w : World) (hl : l.length ≤ 1048576) :
    Calls Tryd.prog 23 #[.string ⟨l.toArray⟩] w fun e w' => ∃ a cap, e = .returned (.tuple #[.slice a (zOf 46 l).length cap, .bool (boGoodM l)]) ∧ Owns w' w.heap.size 3 (.slice a (zOf 46 l).length cap) (nats (zOf 46 l)) ∧ Below w.heap.size w w' := by
  by_cases hg : boGoodM l = true
  · have hB := Brd.of hg
    generalize headLen (splitB 47 l) = W at *
    generalize (splitB 47 l).length = H at *
    obtain ⟨g1, g2, g3⟩ := hB.grid
    have HN : Hid (zOf 46 l = zGo (cellsM l) W 46 0 (cellsM l).length) := by rw [Hid, zOf, g1, g3]
    have HG := Lib.hid hg
    have hn64 := hB.n64
    have hsg := hB.sign
    clear g1 g2 g3
    go_enter Tryd.func23, Tryd.ntmps23
    go_wp2_with fail
    refine (boGood_any l _ hl).mono ?_
    rintro e w1 ⟨rfl, hb1⟩
    go_wp2_with fail
    refine (boCells_any l _ hl).mono ?_
    rintro e w1' ⟨rfl, rfl⟩
    go_wp2_with fail
    refine (boNumbers_any l W H (cellsM l) _ hl hB).mono ?_
    rintro e w2 ⟨a, cap, rfl, hown, hb2⟩
    have hat := hown.at
    have s1 := hb1.size
    have s2 := hb2.size
    clear hown hB hg
    generalize cellsM l = cells at *
    go_wp2_with fail
    go_loopw [5, 16] (fun v i wr => ∃ k : Nat, k ≤ cells.length ∧ i = .int .i64 k ∧ ∃ acc : List Nat, acc.length ≤ k ∧ Owns wr w2.heap.size 3 v (nats acc) ∧ Below w2.heap.size w2 wr ∧ Hid (zGo cells W 46 0 cells.length = acc ++ zGo cells W 46 k (cells.length - k))) (fun _ i _ => cells.length - (intOf i).toNat)
    case atStart => exact ⟨0, Nat.zero_le _, rfl, [], by simp, Owns.nil _ _ _, Below.refl _ _, by simp [Hid]⟩
    case round =>
      obtain ⟨k, hk, rfl, acc, hacc, hownr, hbr, hR⟩ := hrel
      by_cases hlt : k < cells.length
      · obtain ⟨b, off, he, hcell⟩ := nats_at (hat.later rfl hbr) k (by simpa using hlt)
        subst he
        rw [numsM_get] at hcell
        have hnum := numM_le cells W k
        have hgd : Hid (cells.getD k 0 = cells[k]) := by simp [Hid, List.getD, hlt]
        have hst : Hid (zGo cells W 46 k (cells.length - k) = if cells[k] = 46 ∧ numM cells W k = 0 then k :: zGo cells W 46 (k + 1) (cells.length - (k + 1)) else zGo cells W 46 (k + 1) (cells.length - (k + 1))) := by
          rw [Hid, show cells.length - k = (cells.length - (k + 1)) + 1 by omega, zGo, hgd.out]
        have hsk := hsg _ (List.getElem_mem hlt)
        by_cases h0 : numM cells W k = 0
        · have hd2 : ((numM cells W k : Int) == 0) = true := by simp [h0]
          have H0 := Lib.hid h0
          clear h0
          by_cases hs : cells[k] = 46
          · have hd : ((cells[k].toNat : Int) != 42) = true := by simp only [bne, is42]; simp [hs]
            have HS := Lib.hid hs
            clear hs hsk
            go_wp2_with (at_builtin; refine wpList_app1 rfl _ _ _ rfl _ _ _ _ elemInt _ _ _ _ rfl rfl rfl hownr rfl (by simp; omega) hbr.size (by simp; omega) ?_; intro v1 w4 hown1 hb4 hs4)
            rw [nats_snoc] at hown1
            go_roundw
            case rel =>
              first
                | exact ⟨k + 1, by omega, by go_num, _, by simp; omega, hown1, hbr.trans hb4, by rw [Hid, hR.out, hst.out, if_pos ⟨HS.out, H0.out⟩]; simp⟩
                | ((repeat apply Exists.intro); exact ⟨⟨k + 1, by omega, by go_num, _, by simp; omega, hown1, hbr.trans hb4, by rw [Hid, hR.out, hst.out, if_pos ⟨HS.out, H0.out⟩]; simp⟩, rfl⟩)
            case measure => simp [intOf]; omega
          · have hd : ((cells[k].toNat : Int) != 42) = false := by rcases hsk with q | q <;> simp_all [bne, is42]
            have HS := Lib.hid hs
            clear hs hsk
            go_wp2_with fail
            go_roundw
            case rel =>
              first
                | exact ⟨k + 1, by omega, by go_num, acc, by omega, hownr, hbr, by rw [Hid, hR.out, hst.out, if_neg (fun q => HS.out q.1)]⟩
                | ((repeat apply Exists.intro); exact ⟨⟨k + 1, by omega, by go_num, acc, by omega, hownr, hbr, by rw [Hid, hR.out, hst.out, if_neg (fun q => HS.out q.1)]⟩, rfl⟩)
            case measure => simp [intOf]; omega
        · have hd2 : ((numM cells W k : Int) == 0) = false := by simp [h0]
          have H0 := Lib.hid h0
          clear h0 hsk
          go_wp2_with fail
          go_roundw
          case rel =>
            first
              | exact ⟨k + 1, by omega, by go_num, acc, by omega, hownr, hbr, by rw [Hid, hR.out, hst.out, if_neg (fun q => H0.out q.2)]⟩
              | ((repeat apply Exists.intro); exact ⟨⟨k + 1, by omega, by go_num, acc, by omega, hownr, hbr, by rw [Hid, hR.out, hst.out, if_neg (fun q => H0.out q.2)]⟩, rfl⟩)
          case measure => simp [intOf]; omega
      · obtain rfl : k = cells.length := by omega
        have hfin : acc = zOf 46 l := by rw [HN.out, hR.out]; simp [zGo]
        go_wp2_with fail
        go_ret2
        rw [hfin] at hownr
        obtain ⟨a', cap', hv⟩ := hownr.shape
        simp only [nats_length] at hv
        exact ⟨a', cap', by rw [← hv, HG.out]; rfl, by rw [← hv]; exact hownr.mono (by omega), (hb1.trans (hb2.mono s1)).trans (hbr.mono (by omega))⟩
  · have hN : Hid (zOf 46 l = []) := by rw [Hid, zOf, gCells, if_neg hg]; rfl
    have hg' : boGoodM l = false := by simpa using hg
    clear hg
    go_enter Tryd.func23, Tryd.ntmps23
    go_wp2_with (go_at_call 43; refine (boGood_any l _ hl).mono ?_; rintro e w1 ⟨rfl, hb1⟩)
    go_ret2
    exact ⟨none, 0, by rw [hN.out, hg']; rfl, by rw [hN.out]; exact Owns.nil _ _ _, hb1⟩

set_option maxRecDepth 100000 in
set_option maxHeartbeats 3200000 in
theorem sLonelyMines_any (l : List UInt8) (w : World) (hl : l.length ≤ 1048576) :
    Calls Tryd.prog 28 #[.string ⟨l.toArray⟩] w fun e w' => ∃ a cap, e = .returned (.tuple #[.slice a (zOf 42 l).length cap, .bool (boGoodM l)]) ∧ Owns w' w.heap.size 3 (.slice a (zOf 42 l).length cap) (nats (zOf 42 l)) ∧ Below w.heap.size w w' := by
  by_cases hg : boGoodM l = true
  · have hB := Brd.of hg
    generalize headLen (splitB 47 l) = W at *
    generalize (splitB 47 l).length = H at *
    obtain ⟨g1, g2, g3⟩ := hB.grid
    have HN : Hid (zOf 42 l = zGo (cellsM l) W 42 0 (cellsM l).length) := by rw [Hid, zOf, g1, g3]
    have HG := Lib.hid hg
    have hn64 := hB.n64
    have hsg := hB.sign
    clear g1 g2 g3
    go_enter Tryd.func28, Tryd.ntmps28
    go_wp2_with fail
    refine (boGood_any l _ hl).mono ?_
    rintro e w1 ⟨rfl, hb1⟩
    go_wp2_with fail
    refine (boCells_any l _ hl).mono ?_
    rintro e w1' ⟨rfl, rfl⟩
    go_wp2_with fail
    refine (boNumbers_any l W H (cellsM l) _ hl hB).mono ?_
    rintro e w2 ⟨a, cap, rfl, hown, hb2⟩
    have hat := hown.at
    have s1 := hb1.size
    have s2 := hb2.size
    clear hown hB hg
    generalize cellsM l = cells at *
    go_wp2_with fail
    go_loopw [5, 16] (fun v i wr => ∃ k : Nat, k ≤ cells.length ∧ i = .int .i64 k ∧ ∃ acc : List Nat, acc.length ≤ k ∧ Owns wr w2.heap.size 3 v (nats acc) ∧ Below w2.heap.size w2 wr ∧ Hid (zGo cells W 42 0 cells.length = acc ++ zGo cells W 42 k (cells.length - k))) (fun _ i _ => cells.length - (intOf i).toNat)
    case atStart => exact ⟨0, Nat.zero_le _, rfl, [], by simp, Owns.nil _ _ _, Below.refl _ _, by simp [Hid]⟩
    case round =>
      obtain ⟨k, hk, rfl, acc, hacc, hownr, hbr, hR⟩ := hrel
      by_cases hlt : k < cells.length
      · obtain ⟨b, off, he, hcell⟩ := nats_at (hat.later rfl hbr) k (by simpa using hlt)
        subst he
        rw [numsM_get] at hcell
        have hnum := numM_le cells W k
        have hgd : Hid (cells.getD k 0 = cells[k]) := by simp [Hid, List.getD, hlt]
        have hst : Hid (zGo cells W 42 k (cells.length - k) = if cells[k] = 42 ∧ numM cells W k = 0 then k :: zGo cells W 42 (k + 1) (cells.length - (k + 1)) else zGo cells W 42 (k + 1) (cells.length - (k + 1))) := by
          rw [Hid, show cells.length - k = (cells.length - (k + 1)) + 1 by omega, zGo, hgd.out]
        have hsk := hsg _ (List.getElem_mem hlt)
        by_cases h0 : numM cells W k = 0
        · have hd2 : ((numM cells W k : Int) == 0) = true := by simp [h0]
          have H0 := Lib.hid h0
          clear h0
          by_cases hs : cells[k] = 42
          · have hd : ((cells[k].toNat : Int) == 42) = true := by rw [is42]; simp [hs]
            have HS := Lib.hid hs
            clear hs hsk
            go_wp2_with (at_builtin; refine wpList_app1 rfl _ _ _ rfl _ _ _ _ elemInt _ _ _ _ rfl rfl rfl hownr rfl (by simp; omega) hbr.size (by simp; omega) ?_; intro v1 w4 hown1 hb4 hs4)
            rw [nats_snoc] at hown1
            go_roundw
            case rel =>
              first
                | exact ⟨k + 1, by omega, by go_num, _, by simp; omega, hown1, hbr.trans hb4, by rw [Hid, hR.out, hst.out, if_pos ⟨HS.out, H0.out⟩]; simp⟩
                | ((repeat apply Exists.intro); exact ⟨⟨k + 1, by omega, by go_num, _, by simp; omega, hown1, hbr.trans hb4, by rw [Hid, hR.out, hst.out, if_pos ⟨HS.out, H0.out⟩]; simp⟩, rfl⟩)
            case measure => simp [intOf]; omega
          · have hd : ((cells[k].toNat : Int) == 42) = false := by rw [is42]; simp [hs]
            have HS := Lib.hid hs
            clear hs hsk
            go_wp2_with fail
            go_roundw
            case rel =>
              first
                | exact ⟨k + 1, by omega, by go_num, acc, by omega, hownr, hbr, by rw [Hid, hR.out, hst.out, if_neg (fun q => HS.out q.1)]⟩
                | ((repeat apply Exists.intro); exact ⟨⟨k + 1, by omega, by go_num, acc, by omega, hownr, hbr, by rw [Hid, hR.out, hst.out, if_neg (fun q => HS.out q.1)]⟩, rfl⟩)
            case measure => simp [intOf]; omega
        · have hd2 : ((numM cells W k : Int) == 0) = false := by simp [h0]
          have H0 := Lib.hid h0
          clear h0 hsk
          go_wp2_with fail
          go_roundw
          case rel =>
            first
              | exact ⟨k + 1, by omega, by go_num, acc, by omega, hownr, hbr, by rw [Hid, hR.out, hst.out, if_neg (fun q => H0.out q.2)]⟩
              | ((repeat apply Exists.intro); exact ⟨⟨k + 1, by omega, by go_num, acc, by omega, hownr, hbr, by rw [Hid, hR.out, hst.out, if_neg (fun q => H0.out q.2)]⟩, rfl⟩)
          case measure => simp [intOf]; omega
      · obtain rfl : k = cells.length := by omega
        have hfin : acc = zOf 42 l := by rw [HN.out, hR.out]; simp [zGo]
        go_wp2_with fail
        go_ret2
        rw [hfin] at hownr
        obtain ⟨a', cap', hv⟩ := hownr.shape
        simp only [nats_length] at hv
        exact ⟨a', cap', by rw [← hv, HG.out]; rfl, by rw [← hv]; exact hownr.mono (by omega), (hb1.trans (hb2.mono s1)).trans (hbr.mono (by omega))⟩
  · have hN : Hid (zOf 42 l = []) := by rw [Hid, zOf, gCells, if_neg hg]; rfl
    have hg' : boGoodM l = false := by simpa using hg
    clear hg
    go_enter Tryd.func28, Tryd.ntmps28
    go_wp2_with (go_at_call 43; refine (boGood_any l _ hl).mono ?_; rintro e w1 ⟨rfl, hb1⟩)
    go_ret2
    exact ⟨none, 0, by rw [hN.out, hg']; rfl, by rw [hN.out]; exact Owns.nil _ _ _, hb1⟩
end Go.Proofs.YtndmkbkmfonefabDoor
