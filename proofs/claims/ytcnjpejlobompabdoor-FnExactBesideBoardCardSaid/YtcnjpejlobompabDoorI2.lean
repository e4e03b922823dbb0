/- Walks: the program reads a board. -/
import Derived.Test.YtcnjpejlobompabDoorI1
import Derived.Test.YtcnjpejlobompabDoorSp
import Derived.Outline
namespace Go.Proofs.YtcnjpejlobompabDoor
open Go.RowKit

set_option maxRecDepth 100000 in
set_option maxHeartbeats 1600000 in
theorem readBoard_yes (l : List UInt8) (w : World) (hM : HasMax w) (hl : l.length ≤ 1048576) (hg : boGoodM l = true) :
    Calls Tryd.prog 32 #[.string ⟨l.toArray⟩] w fun e w' => ∃ a cap, e = .returned (.tuple #[.agg #[.int .i64 (boSizeM l).1, .int .i64 (boSizeM l).2, .slice a (cellsM l).length cap], .bool true])
      ∧ Owns w' w.heap.size 5 (.slice a (cellsM l).length cap) (byts (cellsM l)) ∧ Below w.heap.size w w' := by
  obtain ⟨f1, f2, f3, f4, f5, f6, f7, f8⟩ := readM_facts hg
  have h71 : l.length ≤ 71 := by
    rw [← good_read] at hg
    by_cases q : l.length ≤ 71
    · exact q
    · simp [readM, q] at hg
  have hfl := splitB_flatten l
  have hpos := splitB_pos 47 l
  clear hg
  go_enter Tryd.func32, Tryd.ntmps32
  go_wp2_with fail
  refine (split_any l _ (hM.later ((Below.refl _ _).alloc (Nat.le_refl _) _)) hl).mono ?_
  rintro e w1 ⟨a, cap, rfl, hown, hb⟩
  have HF6 := Lib.hid f6
  have HFL := Lib.hid hfl
  have HF1 := Lib.hid f1
  have HF7 := Lib.hid f7
  have HF8 := Lib.hid f8
  clear f6 hfl f1 f7 f8
  have hpart := splitB_part 47 l
  generalize splitB 47 l = rows at *
  generalize hcs : cellsM l = cells at *
  generalize hss : boSizeM l = sz at *
  have HCS := Lib.hid hcs
  have HSS := Lib.hid hss
  clear hcs hss
  have hat := hown.at
  obtain ⟨b0, off0, rfl, hc0⟩ := txts_at hat 0 hpos
  simp only [Nat.add_zero] at hc0
  have hh : Hid (headLen rows = rows[0].length) := by cases rows with | nil => simp at hpos | cons x r => simp [Hid, headLen]
  have hp0 := hpart 0 hpos
  go_wp2_with fail
  refine (isSize_any _ _ _).mono ?_
  rintro e w2 ⟨rfl, rfl⟩
  have hso : sizeOK rows[0].length rows.length = true := by rw [← hh.out]; simp [sizeOK]; omega
  go_wp2_with fail
  have hRb : w1.heap[w.heap.size]? = some (.cells #[.int .i64 0, .int .i64 0, .slice none 0 0] 49 (0, 0)) := by
    rw [hb.block w.heap.size (by simp)]; exact heap_alloc_new w _
  have hRlt := block_lt hRb
  have hb0lt : b0 < w1.heap.size := World.block_lt_of_cell? w1 _ hc0
  have hcl : cells.length ≤ 64 := by
    have := HF7.out; have : cells.length ≤ 8 * 8 := by rw [this]; exact Nat.mul_le_mul f3 f4
    omega
  generalize hG : w1.heap.size = G at *
  have HG := Lib.hid hG
  clear hG
  have hsum : Hid (rows.flatten.length = cells.length) := by rw [Hid, HFL.out]
  go_loopw [30] (fun i wr => ∃ k : Nat, k ≤ rows.length ∧ i = .int .i64 k ∧ ∃ va vc, ∃ acc : List UInt8, Hid (wr.heap[G]? = some (.cells #[.int .i64 rows[0].length, .int .i64 rows.length, .slice va acc.length vc] 49 (0, 0))) ∧ Owns wr (G + 1) 5 (.slice va acc.length vc) (byts acc) ∧ Below G w1 wr ∧ Hid (rows.flatten = acc ++ (rows.drop k).flatten)) (fun i _ => rows.length - (intOf i).toNat)
  case atStart =>
    refine ⟨0, Nat.zero_le _, rfl, none, 0, [], ?_, Owns.nil _ _ _, ?_, by simp [Hid]⟩
    · rw [Hid, ← HG.out]; exact heap_alloc_new w1 _
    · exact (Below.refl _ _).alloc (by rw [HG.out]; exact Nat.le_refl _) _
  case round =>
    obtain ⟨k, hk, rfl, va, vc, acc, hGb, hownv, hbw, hfl⟩ := hrel
    have hGlt := block_lt hGb.out
    have hf0 := cell_of_block hGb.out 0
    have hf1 := cell_of_block hGb.out 1
    have hf2 := cell_of_block hGb.out 2
    simp at hf0 hf1 hf2
    by_cases hlt : k < rows.length
    · obtain ⟨b1, off1, he1, hc1⟩ := txts_at hat k hlt
      simp only [Option.some.injEq, Addr.mk.injEq, and_true] at he1
      obtain ⟨rfl, rfl⟩ := he1
      have hc1r : wr.cell? ⟨b0, off0 + k, none⟩ = some (.string ⟨rows[k].toArray⟩) := by rw [hbw.cell (p := ⟨b0, off0 + k, none⟩) hb0lt]; exact hc1
      have hpk := hpart k hlt
      have Ht := Lib.hid (List.drop_eq_getElem_cons hlt)
      have hlen : Hid (rows[k].length = rows[0].length) := by
        have := (allLen_iff _ _).1 HF1.out _ (List.getElem_mem hlt)
        rw [Hid, this, hh.out]
      have hd : ((rows[k].length : Int) != (rows[0].length : Int)) = false := by simp [hlen.out]
      have hsg : rowSigns rows[k] = true := List.all_eq_true.1 HF8.out _ (List.getElem_mem hlt)
      have hal : acc.length ≤ 64 := by
        have := congrArg List.length hfl.out
        rw [hsum.out] at this; simp at this; omega
      have hfr := frozen_of_block hGb.out 2
      go_wp2_with fail
      refine (hasBoardSigns_any _ _ (by omega)).mono ?_
      rintro e w2 ⟨rfl, rfl⟩
      go_wp2_with (at_builtin; refine wpList_appS rfl _ _ _ _ rfl _ _ elemByte Tryd.underlying9 _ _ _ rfl hownv rfl (by omega) (by omega) ?_; intro a1 c1 w2 hown1 hb1; have hGb2 : w2.heap[G]? = some (.cells #[.int .i64 rows[0].length, .int .i64 rows.length, .slice va acc.length vc] 49 (0, 0)) := (by rw [hb1.block G (by omega)]; exact hGb.out); have hg2 := cell_of_block hGb2 2; simp at hg2; have hfr2 := frozen_of_block hGb2 2; have HGb2 := Lib.hid hGb2; clear hGb2)
      go_roundw
      case rel =>
        refine ⟨k + 1, by omega, by go_num, a1, c1, acc ++ rows[k], ?_, ?_, ?_, ?_⟩
        · have := block_set HGb2.out 2 (.slice a1 (acc.length + rows[k].length) c1)
          rw [Hid]; simpa using this
        · have := hown1.set G 2 (.slice a1 (acc.length + rows[k].length) c1) (by omega)
          simpa using this
        · exact (hbw.trans (hb1.mono (by omega))).trans (Below.set 2 _)
        · rw [Hid, hfl.out, Ht.out, List.flatten_cons, List.append_assoc]
      case measure => simp [intOf]; omega
    · have hRb2 : wr.heap[w.heap.size]? = some (.cells #[.int .i64 0, .int .i64 0, .slice none 0 0] 49 (0, 0)) := by rw [hbw.block _ hRlt]; exact hRb
      have hR0 := cell_of_block hRb2 0
      have hR1 := cell_of_block hRb2 1
      have hR2 := cell_of_block hRb2 2
      simp at hR0 hR1 hR2
      have hq0 := frozen_of_block hRb2 0
      have hq1 := frozen_of_block hRb2 1
      have hq2 := frozen_of_block hRb2 2
      have HRb2 := Lib.hid hRb2
      clear hRb2
      obtain rfl : k = rows.length := by omega
      have hacc : acc = cells := by rw [← HFL.out, hfl.out]; simp
      subst hacc
      go_wp2_with fail
      refine bodyPost_ret (v := .tuple #[.agg #[.int .i64 rows[0].length, .int .i64 rows.length, .slice va acc.length vc], .bool true]) ?_ rfl ?_
      · have b1 := block_set HRb2.out 0 (.int .i64 rows[0].length)
        have b2 := block_set b1 1 (.int .i64 rows.length)
        have b3 := block_set b2 2 (.slice va acc.length vc)
        have r0 := cell_of_block b3 0
        have r1 := cell_of_block b3 1
        have r2 := cell_of_block b3 2
        simp at r0 r1 r2
        simp [results, Tryd.results32, go_sem, r0, r1, r2]
      · refine ⟨va, vc, ?_, ?_, ?_⟩
        · rw [HSS.out, HCS.out, HF6.out, hh.out]
        · rw [HCS.out]
          exact ((((hownv.set w.heap.size 0 _ (by omega)).set w.heap.size 1 _ (by omega)).set w.heap.size 2 _ (by omega)).mono (by omega))
        · have hsz := hb.size
          refine Below.trans ?_ (((Below.set 0 _).trans (Below.set 1 _)).trans (Below.set 2 _))
          exact (((Below.refl _ w).alloc (Nat.le_refl _) _).trans (hb.mono (by simp))).trans (hbw.mono (by omega))
end Go.Proofs.YtcnjpejlobompabDoor
