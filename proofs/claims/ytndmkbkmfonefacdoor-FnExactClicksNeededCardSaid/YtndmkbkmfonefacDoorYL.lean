/- Opening: the fewest clicks, by the model, and how many they are. -/
import Derived.Test.YtndmkbkmfonefacDoorYK
import Derived.Outline
namespace Go.Proofs.YtndmkbkmfonefacDoor
open Go.RowKit

set_option maxRecDepth 100000 in
set_option maxHeartbeats 1600000 in
theorem opFirst_any (l : List UInt8) (W H : Nat) (cells : List UInt8) (w : World) (hl : l.length ≤ 1048576) (hB : Brd l W H cells) :
    Calls Tryd.prog 52 #[.string ⟨l.toArray⟩] w fun e w' => ∃ a cap, e = .returned (.slice a (fcM cells W).length cap) ∧ Owns w' w.heap.size 3 (.slice a (fcM cells W).length cap) (nats (fcM cells W)) ∧ Below w.heap.size w w' := by
  have hn64 := hB.n64
  have hall := fun w => opAll_any l W H cells w hl hB
  have HALL := Lib.hid hall
  have hoa := fun w => opAlone_any l W H cells w hl hB
  have HOA := Lib.hid hoa
  have hfl := firstsM_le cells W
  have HLT := Lib.hid (fc_lt cells W)
  have HFC : Hid (fcM cells W = sortM cells.length (aloneM cells W ++ firstsM cells W)) := rfl
  have HAS : Hid (aloneM cells W = sortM cells.length (aloneM cells W ++ [])) := by
    rw [Hid, List.append_nil]
    exact rise_sortM (aloneM_rise cells W) (aloneM_lt cells W)
  clear hB hall hoa
  generalize openingsM cells W = rss at *
  generalize fcM cells W = fc at *
  generalize aloneM cells W = alone at *
  generalize firstsM cells W = firsts at *
  generalize hnn : cells.length = n at *
  clear hnn
  go_enter Tryd.func52, Tryd.ntmps52
  go_wp2_with fail
  refine (HALL.out _).mono ?_
  rintro e w1 ⟨v1, v2, us, rfl, _, hF, hb1⟩
  have hown2 := hF.swap.head
  obtain ⟨a2, cap2, hv⟩ := hown2.shape
  simp only [nats_length] at hv
  subst hv
  have s1 := hb1.size
  clear hF
  go_wp2_with fail
  refine (HOA.out _).mono ?_
  rintro e w2 ⟨a5, cap5, rfl, hown5, hb2⟩
  have s2 := hb2.size
  have hat2 := (hown2.later hb2).at
  have hbw := hb1.trans (hb2.mono s1)
  have hown5' : Owns w2 w1.heap.size 3 (.slice a5 alone.length cap5) (nats (sortM n (alone ++ []))) := by rw [← HAS.out]; exact hown5
  clear hown5 hown2 hb1 hb2
  go_wp2_with fail
  go_loopw [5, 17] (fun v i wr => ∃ k : Nat, k ≤ firsts.length ∧ i = .int .i64 k ∧ Owns wr w1.heap.size 3 v (nats (sortM n (alone ++ firsts.take k))) ∧ Below w2.heap.size w2 wr) (fun _ i _ => firsts.length - (intOf i).toNat)
  case atStart => exact ⟨0, Nat.zero_le _, rfl, hown5', Below.refl _ _⟩
  case round =>
    obtain ⟨k, hk, rfl, hown, hbr⟩ := hrel
    have sr := hbr.size
    by_cases hlt : k < firsts.length
    · obtain ⟨g, off, he, hc⟩ := nats_at (hat2.later rfl hbr) k hlt
      subst he
      have hx : firsts[k] < n := HLT.out _ (List.mem_append.2 (.inr (List.getElem_mem hlt)))
      have hsl := sortM_le n (alone ++ firsts.take k)
      have hpm : Hid (putM (sortM n (alone ++ firsts.take k)) firsts[k] = sortM n (alone ++ firsts.take (k + 1))) := by
        rw [Hid, putM_sort (n := n) (fun y hy => HLT.out y ?_) hx, List.append_assoc, ← List.take_succ_eq_append_getElem hlt]
        rcases List.mem_append.1 hy with h | h
        · exact List.mem_append.2 (.inl h)
        · exact List.mem_append.2 (.inr (List.mem_of_mem_take h))
      go_wp2_with fail
      refine (l1Put_any (sortM n (alone ++ firsts.take k)) firsts[k] _ w1.heap.size _ hown (by omega) (by omega)).mono ?_
      rintro e w3 ⟨v3, rfl, hown3, hb3, _⟩
      rw [hpm.out] at hown3
      go_wp2_with fail
      go_roundw
      case rel =>
        first
          | exact ⟨k + 1, by omega, by go_num, hown3, hbr.trans (hb3.mono sr)⟩
          | ((repeat apply Exists.intro); exact ⟨⟨k + 1, by omega, by go_num, hown3, hbr.trans (hb3.mono sr)⟩, rfl⟩)
      case measure => simp [intOf]; omega
    · obtain rfl : k = firsts.length := by omega
      go_wp2_with fail
      go_ret
      rw [List.take_length, ← HFC.out] at hown
      obtain ⟨a', cap', hv⟩ := hown.shape
      simp only [nats_length] at hv
      exact ⟨a', cap', by rw [← hv]; rfl, by rw [← hv]; exact hown.mono s1, hbw.trans (hbr.mono (by omega))⟩

/-- The fewest clicks on a text. -/
def fcOf (l : List UInt8) : List Nat := fcM (gCells l) (gW l)
theorem fcOf_len (l : List UInt8) : (fcOf l).length ≤ 1048576 := Nat.le_trans (fcM_le _ _) (Nat.le_trans (gCells_le l) (by decide))
theorem fcOf_none {l : List UInt8} (h : boGoodM l = false) : fcOf l = [] := by rw [fcOf, gCells_none h]; rfl

set_option maxRecDepth 100000 in
set_option maxHeartbeats 800000 in
theorem iFirstClicks_any (l : List UInt8) (w : World) (hM : HasMax w) (hl : l.length ≤ 1048576) :
    Calls Tryd.prog 25 #[.string ⟨l.toArray⟩] w fun e w' => ∃ a cap, e = .returned (.tuple #[.slice a (fcOf l).length cap, .bool (boGoodM l)]) ∧ Owns w' w.heap.size 3 (.slice a (fcOf l).length cap) (nats (fcOf l)) ∧ Below w.heap.size w w' := by
  have hgl := gCells_le l
  have hca := fun (w : World) a cap (h : At w a (byts (gCells l))) => firstClicks_any (gW l) (gH l) a (gCells l) cap w h hgl (gW_pos l)
  rw [show fcM (gCells l) (gW l) = fcOf l from rfl] at hca
  have HCA := Lib.hid hca
  clear hca
  go_enter Tryd.func25, Tryd.ntmps25
  go_wp2_with fail
  refine (readBoard_any l _ hM hl).mono ?_
  rintro e w1 ⟨a, cap, rfl, hown, hb⟩
  have s1 := hb.size
  have hat : ∀ o, At (w1.alloc o) a (byts (gCells l)) := fun o => (hown.at).later rfl ((Below.refl _ _).alloc (Nat.le_refl _) _)
  go_wp2_with fail
  refine (HCA.out _ a cap (hat _)).mono ?_
  rintro e w2 ⟨a', cap', rfl, hown2, hb2⟩
  go_wp2_with fail
  go_ret2
  exact ⟨a', cap', rfl, hown2.mono (by simp; omega), (hb.alloc s1 _).trans (hb2.mono (by simp; omega))⟩
set_option maxRecDepth 100000 in
set_option maxHeartbeats 800000 in
theorem iFewestClicks_any (l : List UInt8) (w : World) (hM : HasMax w) (hl : l.length ≤ 1048576) :
    Calls Tryd.prog 23 #[.string ⟨l.toArray⟩] w fun e w' => e = .returned (.tuple #[.int .i64 (((fcOf l).length : Nat) : Int), .bool (boGoodM l)]) ∧ Below w.heap.size w w' := by
  have hgl := gCells_le l
  have hca := fun (w : World) a cap (h : At w a (byts (gCells l))) => firstClicks_any (gW l) (gH l) a (gCells l) cap w h hgl (gW_pos l)
  rw [show fcM (gCells l) (gW l) = fcOf l from rfl] at hca
  have HCA := Lib.hid hca
  clear hca
  go_enter Tryd.func23, Tryd.ntmps23
  go_wp2_with fail
  refine (readBoard_any l _ hM hl).mono ?_
  rintro e w1 ⟨a, cap, rfl, hown, hb⟩
  have s1 := hb.size
  have hat : ∀ o, At (w1.alloc o) a (byts (gCells l)) := fun o => (hown.at).later rfl ((Below.refl _ _).alloc (Nat.le_refl _) _)
  go_wp2_with fail
  refine (HCA.out _ a cap (hat _)).mono ?_
  rintro e w2 ⟨a', cap', rfl, hown2, hb2⟩
  go_wp2_with fail
  go_ret2
  exact ⟨rfl, (hb.alloc s1 _).trans (hb2.mono (by simp; omega))⟩
set_option maxRecDepth 100000 in
set_option maxHeartbeats 800000 in
theorem sFirstClicks_any (l : List UInt8) (w : World) (hl : l.length ≤ 1048576) :
    Calls Tryd.prog 24 #[.string ⟨l.toArray⟩] w fun e w' => ∃ a cap, e = .returned (.tuple #[.slice a (fcOf l).length cap, .bool (boGoodM l)]) ∧ Owns w' w.heap.size 3 (.slice a (fcOf l).length cap) (nats (fcOf l)) ∧ Below w.heap.size w w' := by
  have hg0 := fun w => boGood_any l w hl
  by_cases hg : boGoodM l = true
  · have hB := Brd.of hg
    obtain ⟨g1, g2, g3⟩ := hB.grid
    have hca := fun w => opFirst_any l _ _ _ w hl hB
    rw [show fcM (cellsM l) (headLen (splitB 47 l)) = fcOf l by rw [fcOf, g3, g1]] at hca
    rw [hg] at hg0
    have HG := Lib.hid hg
    have HG0 := Lib.hid hg0
    have HCA := Lib.hid hca
    clear hg hg0 hca hB g1 g2 g3
    go_enter Tryd.func24, Tryd.ntmps24
    go_wp2_with fail
    refine (HG0.out _).mono ?_
    rintro e w1 ⟨rfl, hb⟩
    go_wp2_with fail
    refine (HCA.out _).mono ?_
    rintro e w2 ⟨a, cap, rfl, hown2, hb2⟩
    go_wp2_with fail
    go_ret2
    exact ⟨a, cap, by rw [HG.out]; rfl, hown2.mono hb.size, hb.trans (hb2.mono hb.size)⟩
  · have hg' : boGoodM l = false := by simpa using hg
    have hN := Lib.hid (fcOf_none hg')
    rw [hg'] at hg0
    have HG := Lib.hid hg'
    have HG0 := Lib.hid hg0
    clear hg hg' hg0
    go_enter Tryd.func24, Tryd.ntmps24
    go_wp2_with fail
    refine (HG0.out _).mono ?_
    rintro e w1 ⟨rfl, hb⟩
    go_wp2_with fail
    go_ret2
    exact ⟨none, 0, by rw [HG.out, hN.out]; rfl, by rw [hN.out]; exact Owns.nil _ _ _, hb⟩
set_option maxRecDepth 100000 in
set_option maxHeartbeats 800000 in
theorem sFewestClicks_any (l : List UInt8) (w : World) (hl : l.length ≤ 1048576) :
    Calls Tryd.prog 22 #[.string ⟨l.toArray⟩] w fun e w' => e = .returned (.tuple #[.int .i64 (((fcOf l).length : Nat) : Int), .bool (boGoodM l)]) ∧ Below w.heap.size w w' := by
  have hg0 := fun w => boGood_any l w hl
  by_cases hg : boGoodM l = true
  · have hB := Brd.of hg
    obtain ⟨g1, g2, g3⟩ := hB.grid
    have hca := fun w => opFirst_any l _ _ _ w hl hB
    rw [show fcM (cellsM l) (headLen (splitB 47 l)) = fcOf l by rw [fcOf, g3, g1]] at hca
    rw [hg] at hg0
    have HG := Lib.hid hg
    have HG0 := Lib.hid hg0
    have HCA := Lib.hid hca
    clear hg hg0 hca hB g1 g2 g3
    go_enter Tryd.func22, Tryd.ntmps22
    go_wp2_with fail
    refine (HG0.out _).mono ?_
    rintro e w1 ⟨rfl, hb⟩
    go_wp2_with fail
    refine (HCA.out _).mono ?_
    rintro e w2 ⟨a, cap, rfl, hown2, hb2⟩
    go_wp2_with fail
    go_ret2
    exact ⟨by rw [HG.out]; rfl, hb.trans (hb2.mono hb.size)⟩
  · have hg' : boGoodM l = false := by simpa using hg
    have hN := Lib.hid (fcOf_none hg')
    rw [hg'] at hg0
    have HG := Lib.hid hg'
    have HG0 := Lib.hid hg0
    clear hg hg' hg0
    go_enter Tryd.func22, Tryd.ntmps22
    go_wp2_with fail
    refine (HG0.out _).mono ?_
    rintro e w1 ⟨rfl, hb⟩
    go_wp2_with fail
    go_ret2
    exact ⟨by rw [HG.out, hN.out]; rfl, hb⟩
end Go.Proofs.YtndmkbkmfonefacDoor
