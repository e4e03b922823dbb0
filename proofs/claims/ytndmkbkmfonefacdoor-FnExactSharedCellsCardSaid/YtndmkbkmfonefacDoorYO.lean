/- Opening: the cells that several openings share, by the program and by the model. -/
import Derived.Test.YtndmkbkmfonefacDoorYN
import Derived.Outline
namespace Go.Proofs.YtndmkbkmfonefacDoor
open Go.RowKit

/-- Is a cell in more than one row? -/
def sharedB (rss : List (List Nat)) (k : Nat) : Bool := decide (1 < (wiM rss k).length)
def sharedOf (l : List UInt8) : List Nat := filtM (sharedB (opsOf l)) (gCells l).length
theorem sharedOf_len (l : List UInt8) : (sharedOf l).length ≤ 1048576 := Nat.le_trans (filtM_le _ _) (Nat.le_trans (gCells_le l) (by decide))
theorem sharedOf_none {l : List UInt8} (h : boGoodM l = false) : sharedOf l = [] := by rw [sharedOf, gCells_none h]; rfl

set_option maxRecDepth 100000 in
set_option maxHeartbeats 800000 in
theorem shared1_any (rss : List (List Nat)) (av : Option Addr) (cv : Nat) (us : List Value) (B b2 k : Nat) (w : World) (hV : w.heap[b2]? = some (.cells #[.slice av rss.length cv] 37 (0, 0)))
    (hF : Fam w B ((.slice av rss.length cv, 25, us) :: (rowsF us rss ++ []))) (hus : us.length = rss.length) (hl : rss.length ≤ 64) (hr : ∀ r ∈ rss, r.length ≤ 64) :
    Calls Tryd.prog 61 #[.int .i64 (k : Int), .pointer (some ⟨b2, 0, none⟩)] w fun e w' => e = .returned (.bool (sharedB rss k)) ∧ Below w.heap.size w w' := by
  have hg0 := cell_of_block hV 0
  simp at hg0
  have HS : Hid (sharedB rss k = decide (1 < (wiM rss k).length)) := rfl
  have HR := Lib.hid hr
  have HUS := Lib.hid hus
  have hwl := wiM_le rss k
  clear hr hus hV
  go_enter Tryd.func61, Tryd.ntmps61
  go_wp2_with fail
  refine (openingsWith_any rss k av cv us [] B _ HUS.out hF (by omega) (fun r h => by have := HR.out r h; omega)).mono ?_
  rintro e w2 ⟨a2, cap2, rfl, _, hb2⟩
  have he : Hid (decide ((1 : Int) < ((wiM rss k).length : Int)) = sharedB rss k) := by rw [Hid, HS.out, decide_eq_decide]; omega
  go_wp2_with fail
  go_ret
  exact ⟨by rw [← he.out]; rfl, hb2⟩
theorem enters_shared1 (args : Array Value) (w' : World) : (callFunc 61 args).run Tryd.prog w' = .ok (.enter 61 args) w' := by
  go_simp

set_option maxRecDepth 100000 in
set_option maxHeartbeats 1600000 in
theorem iSharedCells_any (l : List UInt8) (w : World) (hM : HasMax w) (hl : l.length ≤ 1048576) :
    Calls Tryd.prog 33 #[.string ⟨l.toArray⟩] w fun e w' => ∃ a cap, e = .returned (.tuple #[.slice a (sharedOf l).length cap, .bool (boGoodM l)]) ∧ Owns w' w.heap.size 3 (.slice a (sharedOf l).length cap) (nats (sharedOf l)) ∧ Below w.heap.size w w' := by
  have hgl := gCells_le l
  have hop := fun (w : World) a cap (h : At w a (byts (gCells l))) => openings_any (gW l) (gH l) a (gCells l) cap w h hgl (gW_pos l)
  rw [show openingsM (gCells l) (gW l) = opsOf l from rfl] at hop
  have HOP := Lib.hid hop
  have HROW := Lib.hid (opsOf_row l)
  have hrl : (opsOf l).length ≤ 64 := by rw [opsOf_length]; exact fstOf_le l
  have HSO : Hid (sharedOf l = filtM (sharedB (opsOf l)) (gCells l).length) := rfl
  clear hop
  generalize opsOf l = rss at *
  generalize sharedOf l = sh at *
  go_enter Tryd.func33, Tryd.ntmps33
  go_wp2_with fail
  refine (readBoard_any l _ hM hl).mono ?_
  rintro e w1 ⟨a, cap, rfl, hown, hb⟩
  have s1 := hb.size
  generalize gCells l = cells at *
  generalize gW l = W at *
  generalize gH l = H at *
  go_wp2_with fail
  have hba : Below w1.heap.size w1 (w1.alloc (.cells #[.int .i64 W, .int .i64 H, .slice a cells.length cap, .bool false] 42)) := (Below.refl _ _).alloc (Nat.le_refl _) _
  have hGa : (w1.alloc (.cells #[.int .i64 W, .int .i64 H, .slice a cells.length cap, .bool false] 42)).heap[w1.heap.size]? = some (.cells #[.int .i64 W, .int .i64 H, .slice a cells.length cap, .bool false] 42 (0, 0)) := heap_alloc_new w1 _
  have hsa : w1.heap.size < (w1.alloc (.cells #[.int .i64 W, .int .i64 H, .slice a cells.length cap, .bool false] 42)).heap.size := by simp
  have hata := hown.at.later rfl hba
  generalize w1.alloc (.cells #[.int .i64 W, .int .i64 H, .slice a cells.length cap, .bool false] 42) = wa at *
  have HGA := Lib.hid hGa
  clear hGa
  refine (HOP.out _ a cap hata).mono ?_
  rintro e w2 ⟨v, us, rfl, hus, hF, hb2⟩
  obtain ⟨a1, cap1, hv⟩ := hF.head.shape
  rw [hus] at hv
  subst hv
  have HUS := Lib.hid hus
  have s2 := hb2.size
  have hbw := (hb.trans (hba.mono s1)).trans (hb2.mono (by omega))
  have hG2 := (hb2.block w1.heap.size hsa).trans HGA.out
  have hf0 := cell_of_block hG2 0
  have hf1 := cell_of_block hG2 1
  have hf2 := cell_of_block hG2 2
  have hf3 := cell_of_block hG2 3
  simp at hf0 hf1 hf2 hf3
  have hG2lt := block_lt hG2
  clear hus hG2 hb hba
  go_wp2_with fail
  have hb3 : Below w2.heap.size w2 (w2.alloc (.cells #[.slice a1 rss.length cap1] 37)) := (Below.refl _ _).alloc (Nat.le_refl _) _
  have hV3 : (w2.alloc (.cells #[.slice a1 rss.length cap1] 37)).heap[w2.heap.size]? = some (.cells #[.slice a1 rss.length cap1] 37 (0, 0)) := heap_alloc_new w2 _
  have hs3 : w2.heap.size < (w2.alloc (.cells #[.slice a1 rss.length cap1] 37)).heap.size := by simp
  have hF3 : Fam (w2.alloc (.cells #[.slice a1 rss.length cap1] 37)) wa.heap.size ((.slice a1 rss.length cap1, 25, us) :: (rowsF us rss ++ [])) := by rw [List.append_nil]; exact hF.later hb3
  generalize w2.alloc (.cells #[.slice a1 rss.length cap1] 37) = w3 at *
  refine (pick_any W H a cells.length cap (sharedB rss) 61 #[] #[.pointer (some ⟨w2.heap.size, 0, none⟩)] w3 hgl enters_shared1 ?_).mono ?_
  · intro w' k hb' _
    exact shared1_any rss a1 cap1 us wa.heap.size w2.heap.size k w' ((hb'.block _ hs3).trans hV3) (hF3.later hb') HUS.out hrl HROW.out
  · rintro e w4 ⟨a', cap', rfl, hown4, hb4⟩
    rw [← HSO.out] at hown4 ⊢
    have s3 := hb3.size
    go_wp2_with fail
    go_ret2
    exact ⟨a', cap', rfl, hown4.mono (by omega), (hbw.trans (hb3.mono (by omega))).trans (hb4.mono (by omega))⟩

set_option maxRecDepth 100000 in
set_option maxHeartbeats 1600000 in
theorem sSharedCells_any (l : List UInt8) (w : World) (hl : l.length ≤ 1048576) :
    Calls Tryd.prog 32 #[.string ⟨l.toArray⟩] w fun e w' => ∃ a cap, e = .returned (.tuple #[.slice a (sharedOf l).length cap, .bool (boGoodM l)]) ∧ Owns w' w.heap.size 3 (.slice a (sharedOf l).length cap) (nats (sharedOf l)) ∧ Below w.heap.size w w' := by
  have hg0 := fun w => boGood_any l w hl
  by_cases hg : boGoodM l = true
  · have hB := Brd.of hg
    obtain ⟨g1, g2, g3⟩ := hB.grid
    have hn64 := hB.n64
    have hsg := hB.sign
    have how := fun c w => opWith_any l _ _ _ c w hl hB
    have he : openingsM (cellsM l) (headLen (splitB 47 l)) = opsOf l := by rw [opsOf, g3, g1]
    rw [he] at how
    have HSO : Hid (sharedOf l = filtM (sharedB (opsOf l)) (cellsM l).length) := by rw [Hid, sharedOf, g3]
    have hrl : (opsOf l).length ≤ 64 := by rw [opsOf_length]; exact fstOf_le l
    rw [hg] at hg0
    have HG := Lib.hid hg
    have HG0 := Lib.hid hg0
    have HOW := Lib.hid how
    have hcs := fun w => boCells_any l w hl
    have HCS := Lib.hid hcs
    have hwl := fun k : Int => wiM_le (opsOf l) k
    have HWL := Lib.hid hwl
    clear hg hg0 how hB g1 g2 g3 he hcs hwl
    generalize opsOf l = rss at *
    generalize sharedOf l = sh at *
    generalize cellsM l = cells at *
    have HPP : Hid (∀ k, sharedB rss k = decide (1 < (wiM rss k).length)) := fun k => rfl
    generalize sharedB rss = p at *
    go_enter Tryd.func32, Tryd.ntmps32
    go_wp2_with fail
    refine (HG0.out _).mono ?_
    rintro e w1 ⟨rfl, hb1⟩
    have s1 := hb1.size
    go_wp2_with fail
    refine (HCS.out _).mono ?_
    rintro e w1' ⟨rfl, rfl⟩
    go_wp2_with fail
    have hI : (w1.iter ⟨cells.toArray⟩ 0).heap[w1.heap.size]? = some (.stringIter ⟨cells.toArray⟩ 0) := World.iter_heap w1 _ _
    have hb2 : Below w1.heap.size w1 (w1.iter ⟨cells.toArray⟩ 0) := (Below.refl _ _).alloc (Nat.le_refl _) _
    have hs2 : w1.heap.size < (w1.iter ⟨cells.toArray⟩ 0).heap.size := by simp [World.iter]
    have hb12 := hb1.trans (hb2.mono s1)
    generalize w1.iter ⟨cells.toArray⟩ 0 = w2 at *
    generalize hII : w1.heap.size = I at *
    have HII := Lib.hid hII
    clear hII hb2
    go_loopw [4] (fun v wr => ∃ k : Nat, k ≤ cells.length ∧ Hid (wr.heap[I]? = some (.stringIter ⟨cells.toArray⟩ k)) ∧ Owns wr (I + 1) 3 v (nats (filtM p k)) ∧ Below I w2 wr) (fun _ wr => cells.length - wr.iterPos I)
    case atStart => exact ⟨0, Nat.zero_le _, hI, Owns.nil _ _ _, Below.refl _ _⟩
    case round =>
      obtain ⟨k, hk, hIr, hown, hb⟩ := hrel
      have hIlt := block_lt hIr.out
      have hle := filtM_le p k
      by_cases hlt : k < cells.length
      · have hasc := sign_ascii (hsg _ (List.getElem_mem hlt))
        have hnx := fun ty => Lib.run_next_ascii_at (P := Tryd.prog) wr I ⟨cells.toArray⟩ k ty hIr.out (by simpa [ByteArray.size] using hlt) (by simpa using hasc)
        have hpos := Lib.hid (iterPos_at hIr.out)
        have i1 := iterAt_at hIlt ⟨cells.toArray⟩ (k + 1)
        have i2 := iterAt_below wr I ⟨cells.toArray⟩ (k + 1)
        have i3 := iterAt_size wr I ⟨cells.toArray⟩ (k + 1)
        have i4 := hown.iter I ⟨cells.toArray⟩ (k + 1) (by omega)
        go_wp2_with fail
        clear hnx
        have I1 := Lib.hid i1
        clear i1
        generalize wr.iterAt I ⟨cells.toArray⟩ (k + 1) = wi at *
        have hwi : I + 1 ≤ wi.heap.size := by omega
        clear i3
        refine (HOW.out k _).mono ?_
        rintro e w3 ⟨a3, cap3, rfl, _, hb3⟩
        have s3 := hb3.size
        have hw3 := HWL.out k
        have i5 := (hb3.block I (by omega)).trans I1.out
        have i43 := i4.later hb3
        have hbi := (hb.trans i2).trans (hb3.mono (by omega))
        have I5 := Lib.hid i5
        clear i5 hb3 i4 i2
        cases hv : p k with
        | true =>
          have h1 : 1 < (wiM rss k).length := by rw [HPP.out] at hv; simpa using hv
          have HV := Lib.hid hv
          clear hv
          go_wp2_with (at_builtin; refine wpList_app1 rfl _ _ _ rfl _ _ _ _ elemInt _ _ _ _ rfl rfl rfl i43 rfl (by simp; omega) (by omega) (by simp; omega) ?_; intro v1 w4 hown1 hb4 hs4)
          rw [nats_snoc, ← filtM_yes HV.out] at hown1
          have i6 := (hb4.block I (by omega)).trans I5.out
          have ip := Lib.hid (iterPos_at i6)
          have I6 := Lib.hid i6
          clear i6
          go_roundw
          case rel =>
            first
              | exact ⟨k + 1, by omega, I6, hown1, hbi.trans (hb4.mono (by omega))⟩
              | ((repeat apply Exists.intro); exact ⟨⟨k + 1, by omega, I6, hown1, hbi.trans (hb4.mono (by omega))⟩, rfl⟩)
          case measure => rw [hpos.out, ip.out]; omega
        | false =>
          have h1 : ¬ 1 < (wiM rss k).length := by rw [HPP.out] at hv; simpa using hv
          have HV := Lib.hid hv
          clear hv
          have ip := Lib.hid (iterPos_at I5.out)
          go_wp2_with fail
          go_roundw
          case rel =>
            first
              | exact ⟨k + 1, by omega, I5, by rw [filtM_no HV.out]; exact i43, hbi⟩
              | ((repeat apply Exists.intro); exact ⟨⟨k + 1, by omega, I5, by rw [filtM_no HV.out]; exact i43, hbi⟩, rfl⟩)
          case measure => rw [hpos.out, ip.out]; omega
      · obtain rfl : k = cells.length := by omega
        have hnx := fun ty => Lib.run_next_end_at (P := Tryd.prog) wr I ⟨cells.toArray⟩ cells.length ty hIr.out (by simp [ByteArray.size])
        go_wp2_with fail
        go_ret2
        rw [← HSO.out] at hown
        obtain ⟨a', cap', hv⟩ := hown.shape
        simp only [nats_length] at hv
        exact ⟨a', cap', by rw [← hv, HG.out]; rfl, by rw [← hv]; exact hown.mono (by omega), hb12.trans (hb.mono (by omega))⟩
  · have hg' : boGoodM l = false := by simpa using hg
    have hN := Lib.hid (sharedOf_none hg')
    rw [hg'] at hg0
    have HG := Lib.hid hg'
    have HG0 := Lib.hid hg0
    clear hg hg' hg0
    go_enter Tryd.func32, Tryd.ntmps32
    go_wp2_with fail
    refine (HG0.out _).mono ?_
    rintro e w1 ⟨rfl, hb⟩
    go_wp2_with fail
    go_ret2
    exact ⟨none, 0, by rw [HG.out, hN.out]; rfl, by rw [hN.out]; exact Owns.nil _ _ _, hb⟩
end Go.Proofs.YtndmkbkmfonefacDoor
