/- Walks: the program reads what is no board. -/
import Derived.Test.YtcnjpejlobompabDoorI2
import Derived.Outline
namespace Go.Proofs.YtcnjpejlobompabDoor
open Go.RowKit

/-- What readBoard hands back of a text that is no board. -/
def NoGrid : Value := .tuple #[.agg #[.int .i64 0, .int .i64 0, .slice none 0 0], .bool false]

theorem noGrid_ret {B : Nat} {w w' : World} {t0 t1 : Value} {r : List Value} (h : w'.heap[B]? = some (.cells #[.int .i64 0, .int .i64 0, .slice none 0 0] 49 (0, 0))) {a : Act}
    (ha : a = { tmps := (t0 :: t1 :: .pointer (some ⟨B, 0, none⟩) :: .bool false :: r).toArray, defers := [] }) (hb : Below w.heap.size w w') :
    bodyPost Tryd.prog Tryd.f32 (fun e w' => e = .returned NoGrid ∧ Below w.heap.size w w') .ret a w' := by
  subst ha
  have r0 := cell_of_block h 0
  have r1 := cell_of_block h 1
  have r2 := cell_of_block h 2
  simp at r0 r1 r2
  exact bodyPost_ret (v := NoGrid) (by simp [results, Tryd.results32, go_sem, r0, r1, r2, NoGrid]) rfl ⟨rfl, hb⟩

set_option maxRecDepth 100000 in
set_option maxHeartbeats 1600000 in
theorem readBoard_no (l : List UInt8) (w : World) (hM : HasMax w) (hl : l.length ≤ 1048576) (hg : boGoodM l = false) :
    Calls Tryd.prog 32 #[.string ⟨l.toArray⟩] w fun e w' => e = .returned NoGrid ∧ Below w.heap.size w w' := by
  rw [← good_read] at hg
  by_cases h71 : l.length ≤ 71
  · have hpos := splitB_pos 47 l
    rw [readM, if_pos h71] at hg
    go_enter Tryd.func32, Tryd.ntmps32
    go_wp2_with fail
    refine (split_any l _ (hM.later ((Below.refl _ _).alloc (Nat.le_refl _) _)) hl).mono ?_
    rintro e w1 ⟨a, cap, rfl, hown, hb⟩
    have Hg := Lib.hid hg
    clear hg
    have hpart := splitB_part 47 l
    have hle := splitB_le 47 l
    generalize splitB 47 l = rows at *
    have hat := hown.at
    obtain ⟨b0, off0, rfl, hc0⟩ := txts_at hat 0 hpos
    simp only [Nat.add_zero] at hc0
    have hh : Hid (headLen rows = rows[0].length) := by cases rows with | nil => simp at hpos | cons x r => simp [Hid, headLen]
    have hp0 := hpart 0 hpos
    have hRb : w1.heap[w.heap.size]? = some (.cells #[.int .i64 0, .int .i64 0, .slice none 0 0] 49 (0, 0)) := by
      rw [hb.block w.heap.size (by simp)]; exact heap_alloc_new w _
    have hRlt := block_lt hRb
    have hb0lt : b0 < w1.heap.size := World.block_lt_of_cell? w1 _ hc0
    go_wp2_with fail
    refine (isSize_any _ _ _).mono ?_
    rintro e w2 ⟨rfl, hw2⟩
    by_cases hso : sizeOK rows[0].length rows.length = true
    · subst hw2
      have Hg2 : Hid (rowsOK rows[0].length rows = false) := by
        have := Hg.out; rw [hh.out, if_pos hso] at this; exact this
      go_wp2_with fail
      generalize hG : w1.heap.size = G at *
      have HG := Lib.hid hG
      clear hG
      go_loopw [30] (fun i wr => ∃ k : Nat, k ≤ rows.length ∧ i = .int .i64 k ∧ ∃ va vc, ∃ acc : List UInt8, Hid (wr.heap[G]? = some (.cells #[.int .i64 rows[0].length, .int .i64 rows.length, .slice va acc.length vc] 49 (0, 0))) ∧ Owns wr (G + 1) 5 (.slice va acc.length vc) (byts acc) ∧ Below G w1 wr ∧ acc.length ≤ k * l.length ∧ Hid (rowsOK rows[0].length rows = rowsOK rows[0].length (rows.drop k))) (fun i _ => rows.length - (intOf i).toNat)
      case atStart =>
        refine ⟨0, Nat.zero_le _, rfl, none, 0, [], ?_, Owns.nil _ _ _, ?_, by simp, rfl⟩
        · rw [Hid, ← HG.out]; exact heap_alloc_new w1 _
        · exact (Below.refl _ _).alloc (by rw [HG.out]; exact Nat.le_refl _) _
      case round =>
        obtain ⟨k, hk, rfl, va, vc, acc, hGb, hownv, hbw, hacc, hno⟩ := hrel
        have hGlt := block_lt hGb.out
        have hf0 := cell_of_block hGb.out 0
        have hf1 := cell_of_block hGb.out 1
        have hf2 := cell_of_block hGb.out 2
        simp at hf0 hf1 hf2
        have hRb2 : wr.heap[w.heap.size]? = some (.cells #[.int .i64 0, .int .i64 0, .slice none 0 0] 49 (0, 0)) := by rw [hbw.block _ hRlt]; exact hRb
        have hR0 := cell_of_block hRb2 0
        have hR1 := cell_of_block hRb2 1
        have hR2 := cell_of_block hRb2 2
        simp at hR0 hR1 hR2
        have hq0 := frozen_of_block hRb2 0
        have hq1 := frozen_of_block hRb2 1
        have hq2 := frozen_of_block hRb2 2
        have HRb2 := Lib.hid hRb2
        clear hRb2
        have fin : Below w.heap.size w (((wr.setCell ⟨w.heap.size, 0, none⟩ (.int .i64 0)).setCell ⟨w.heap.size, 1, none⟩ (.int .i64 0)).setCell ⟨w.heap.size, 2, none⟩ (.slice none 0 0)) := by
          refine Below.trans ?_ (((Below.set 0 _).trans (Below.set 1 _)).trans (Below.set 2 _))
          exact (((Below.refl _ w).alloc (Nat.le_refl _) _).trans (hb.mono (by simp))).trans (hbw.mono (by omega))
        have HR : Hid ((((wr.setCell ⟨w.heap.size, 0, none⟩ (.int .i64 0)).setCell ⟨w.heap.size, 1, none⟩ (.int .i64 0)).setCell ⟨w.heap.size, 2, none⟩ (.slice none 0 0)).heap[w.heap.size]? = some (.cells #[.int .i64 0, .int .i64 0, .slice none 0 0] 49 (0, 0))) := by
          have b3 := block_set (block_set (block_set HRb2.out 0 (.int .i64 0)) 1 (.int .i64 0)) 2 (.slice none 0 0)
          simpa [Hid] using b3
        by_cases hlt : k < rows.length
        · obtain ⟨b1, off1, he1, hc1⟩ := txts_at hat k hlt
          simp only [Option.some.injEq, Addr.mk.injEq, and_true] at he1
          obtain ⟨rfl, rfl⟩ := he1
          have hc1r : wr.cell? ⟨b0, off0 + k, none⟩ = some (.string ⟨rows[k].toArray⟩) := by rw [hbw.cell (p := ⟨b0, off0 + k, none⟩) hb0lt]; exact hc1
          have hpk := hpart k hlt
          have Ht := Lib.hid (List.drop_eq_getElem_cons hlt)
          have hkl : k * l.length ≤ 72 * 71 := Nat.mul_le_mul (by omega) h71
          by_cases hlen : rows[k].length = rows[0].length
          · have hd : ((rows[k].length : Int) != (rows[0].length : Int)) = false := by simp [hlen]
            have Hlen := Lib.hid hlen
            clear hlen
            have hfr := frozen_of_block hGb.out 2
            by_cases hsg : rowSigns rows[k] = true
            · go_wp2_with fail
              refine (hasBoardSigns_any _ _ (by omega)).mono ?_
              rintro e w2 ⟨rfl, rfl⟩
              go_wp2_with (at_builtin; refine wpList_appS rfl _ _ _ _ rfl _ _ elemByte Tryd.underlying9 _ _ _ rfl hownv rfl (by omega) (by omega) ?_; intro a1 c1 w2 hown1 hb1; have hGb2 : w2.heap[G]? = some (.cells #[.int .i64 rows[0].length, .int .i64 rows.length, .slice va acc.length vc] 49 (0, 0)) := (by rw [hb1.block G (by omega)]; exact hGb.out); have hg2 := cell_of_block hGb2 2; simp at hg2; have hfr2 := frozen_of_block hGb2 2; have HGb2 := Lib.hid hGb2; clear hGb2)
              go_roundw
              case rel =>
                refine ⟨k + 1, by omega, by go_num, a1, c1, acc ++ rows[k], ?_, ?_, ?_, ?_, ?_⟩
                · have := block_set HGb2.out 2 (.slice a1 (acc.length + rows[k].length) c1)
                  rw [Hid]; simpa using this
                · have := hown1.set G 2 (.slice a1 (acc.length + rows[k].length) c1) (by omega)
                  simpa using this
                · exact (hbw.trans (hb1.mono (by omega))).trans (Below.set 2 _)
                · rw [List.length_append, Nat.add_mul]; omega
                · rw [Hid, hno.out, Ht.out, rowsOK, if_pos Hlen.out, if_pos hsg]
              case measure => simp [intOf]; omega
            · have hsg' : rowSigns rows[k] = false := by simpa using hsg
              clear hsg
              go_wp2_with (go_at_call 63; refine (hasBoardSigns_any _ _ (by omega)).mono ?_; rintro e w2 ⟨rfl, rfl⟩)
              exact noGrid_ret HR.out rfl fin
          · have hd : ((rows[k].length : Int) != (rows[0].length : Int)) = true := by simp; omega
            go_wp2_with fail
            exact noGrid_ret HR.out rfl fin
        · exfalso
          have := hno.out
          rw [List.drop_of_length_le (by omega), Hg2.out] at this
          simp [rowsOK] at this
    · have hso' : sizeOK rows[0].length rows.length = false := by simpa using hso
      clear hso
      have hRb2 : w2.heap[w.heap.size]? = some (.cells #[.int .i64 0, .int .i64 0, .slice none 0 0] 49 (0, 0)) := by
        rw [← hw2, Below.heap_alloc _ _ _ hRlt]; exact hRb
      have hbw : Below w.heap.size w w2 := by
        rw [← hw2]
        exact (((Below.refl _ w).alloc (Nat.le_refl _) _).trans (hb.mono (by simp))).alloc (by omega) _
      have HW := Lib.hid hw2
      clear hw2
      have hR0 := cell_of_block hRb2 0
      have hR1 := cell_of_block hRb2 1
      have hR2 := cell_of_block hRb2 2
      simp at hR0 hR1 hR2
      have hq0 := frozen_of_block hRb2 0
      have hq1 := frozen_of_block hRb2 1
      have hq2 := frozen_of_block hRb2 2
      have HRb2 := Lib.hid hRb2
      clear hRb2
      go_wp2_with fail
      refine noGrid_ret (by simpa using block_set (block_set (block_set HRb2.out 0 (.int .i64 0)) 1 (.int .i64 0)) 2 (.slice none 0 0)) rfl ?_
      exact hbw.trans (((Below.set 0 _).trans (Below.set 1 _)).trans (Below.set 2 _))
  · have h71' : 71 < l.length := by omega
    clear h71 hg
    go_enter Tryd.func32, Tryd.ntmps32
    go_wp2_with fail
    refine bodyPost_ret (v := NoGrid) ?_ rfl ⟨rfl, ?_⟩
    · simp [results, Tryd.results32, go_sem, NoGrid]
    · exact (Below.refl _ w).alloc (Nat.le_refl _) _
end Go.Proofs.YtcnjpejlobompabDoor
