/- Walks: the program reads a grid: rows of one width whose signs hold. -/
import Derived.Test.YthlbplmghjaeoaaDoorI1
import Derived.Test.YthlbplmghjaeoaaDoorSp
import Derived.Outline
namespace Go.Proofs.YthlbplmghjaeoaaDoor
open Go.RowKit

/-- What a reader hands back of a text that is none. -/
def NoGrid : Value := .tuple #[.agg #[.int .i64 0, .int .i64 0, .slice none 0 0, .bool false], .bool false]

theorem noGrid_ret {p : UInt8 → Bool} {l : List UInt8} {B : Nat} {w w' : World} {t0 t1 t2 t3 : Value} {r : List Value} (h : w'.heap[B]? = some (.cells #[.int .i64 0, .int .i64 0, .slice none 0 0, .bool false] 58 (0, 0))) {a : Act}
    (ha : a = { tmps := (t0 :: t1 :: t2 :: t3 :: .pointer (some ⟨B, 0, none⟩) :: .bool false :: r).toArray, defers := [] }) (hg : gridM p l = false) (hb : Below w.heap.size w w') {X : Ending → World → Prop} :
    bodyPost Tryd.prog Tryd.f64 (fun e w' => (X e w' ∨ (gridM p l = false ∧ e = .returned NoGrid)) ∧ Below w.heap.size w w') .ret a w' := by
  subst ha
  have r0 := cell_of_block h 0
  have r1 := cell_of_block h 1
  have r2 := cell_of_block h 2
  have r3 := cell_of_block h 3
  simp at r0 r1 r2 r3
  exact bodyPost_ret (v := NoGrid) (by simp [results, Tryd.results64, go_sem, r0, r1, r2, r3, NoGrid]) rfl ⟨.inr ⟨hg, rfl⟩, hb⟩

set_option maxRecDepth 100000 in
set_option maxHeartbeats 1600000 in
theorem readGrid_or (p : UInt8 → Bool) (F : Nat) (hS : Signs F p) (l : List UInt8) (w : World) (hM : HasMax w) (hl : l.length ≤ 1048576) :
    Calls Tryd.prog 64 #[.string ⟨l.toArray⟩, .func (.func F) #[] #[]] w fun e w' => (((gridM p l = true ∧ ∃ a cap, e = .returned (.tuple #[.agg #[.int .i64 (headLen (splitB 47 l)), .int .i64 (splitB 47 l).length, .slice a (cellsM l).length cap, .bool false], .bool true])
      ∧ Owns w' w.heap.size 5 (.slice a (cellsM l).length cap) (byts (cellsM l)))) ∨ (gridM p l = false ∧ e = .returned NoGrid)) ∧ Below w.heap.size w w' := by
  obtain ⟨hE, hF⟩ := hS
  by_cases h71 : l.length ≤ 71
  · have HGM := Lib.hid (show gridM p l = (if sizeOK (headLen (splitB 47 l)) (splitB 47 l).length = true then (if allLen (headLen (splitB 47 l)) (splitB 47 l) = true then (cellsM l).all p else false) else false) by rw [gridM, if_pos h71])
    have hfl := splitB_flatten l
    have hsm := splitB_sum l
    have hpos := splitB_pos 47 l
    go_enter Tryd.func64, Tryd.ntmps64
    go_wp2_with fail
    refine (split_any l _ (hM.later ((Below.refl _ _).alloc (Nat.le_refl _) _)) hl).mono ?_
    rintro e w1 ⟨a, cap, rfl, hown, hb⟩
    have HFL := Lib.hid hfl
    have HSM := Lib.hid hsm
    clear hfl hsm
    have hpart := splitB_part 47 l
    have hle := splitB_le 47 l
    generalize hrw : splitB 47 l = rows at *
    generalize hcs : cellsM l = cells at *
    have HRW := Lib.hid hrw
    have HCS := Lib.hid hcs
    clear hcs hrw
    have hat := hown.at
    obtain ⟨b0, off0, rfl, hc0⟩ := txts_at hat 0 hpos
    simp only [Nat.add_zero] at hc0
    have hh : Hid (headLen rows = rows[0].length) := by cases rows with | nil => simp at hpos | cons x r => simp [Hid, headLen]
    have hp0 := hpart 0 hpos
    have hRb : w1.heap[w.heap.size]? = some (.cells #[.int .i64 0, .int .i64 0, .slice none 0 0, .bool false] 58 (0, 0)) := by
      rw [hb.block w.heap.size (by simp)]; exact heap_alloc_new w _
    have hRlt := block_lt hRb
    have hb0lt : b0 < w1.heap.size := World.block_lt_of_cell? w1 _ hc0
    go_wp2_with fail
    refine (isSize_any _ _ _).mono ?_
    rintro e w2 ⟨rfl, hw2⟩
    by_cases hso : sizeOK rows[0].length rows.length = true
    · subst hw2
      have HSO := Lib.hid hso
      have HGA : Hid (gridM p l = (if allLen rows[0].length rows = true then cells.all p else false)) := by
        rw [Hid, HGM.out, hh.out, if_pos hso]
      clear HGM
      go_wp2_with fail
      generalize hG : w1.heap.size = G at *
      have HG := Lib.hid hG
      clear hG
      go_loopw [34] (fun i wr => ∃ k : Nat, k ≤ rows.length ∧ i = .int .i64 k ∧ ∃ va vc, ∃ acc : List UInt8, Hid (wr.heap[G]? = some (.cells #[.int .i64 rows[0].length, .int .i64 rows.length, .slice va acc.length vc, .bool false] 58 (0, 0))) ∧ Owns wr (G + 1) 5 (.slice va acc.length vc) (byts acc) ∧ Below G w1 wr ∧ Hid (rows.flatten = acc ++ (rows.drop k).flatten) ∧ Hid (allLen rows[0].length rows = allLen rows[0].length (rows.drop k))) (fun i _ => rows.length - (intOf i).toNat)
      case atStart =>
        refine ⟨0, Nat.zero_le _, rfl, none, 0, [], ?_, Owns.nil _ _ _, ?_, by simp [Hid], rfl⟩
        · rw [Hid, ← HG.out]; exact heap_alloc_new w1 _
        · exact (Below.refl _ _).alloc (by rw [HG.out]; exact Nat.le_refl _) _
      case round =>
        obtain ⟨k, hk, rfl, va, vc, acc, hGb, hownv, hbw, hfl, hno⟩ := hrel
        have hGlt := block_lt hGb.out
        have hf0 := cell_of_block hGb.out 0
        have hf1 := cell_of_block hGb.out 1
        have hf2 := cell_of_block hGb.out 2
        have hf3 := cell_of_block hGb.out 3
        simp at hf0 hf1 hf2 hf3
        have hRb2 : wr.heap[w.heap.size]? = some (.cells #[.int .i64 0, .int .i64 0, .slice none 0 0, .bool false] 58 (0, 0)) := by rw [hbw.block _ hRlt]; exact hRb
        have hR0 := cell_of_block hRb2 0
        have hR1 := cell_of_block hRb2 1
        have hR2 := cell_of_block hRb2 2
        have hR3 := cell_of_block hRb2 3
        simp at hR0 hR1 hR2 hR3
        have hq0 := frozen_of_block hRb2 0
        have hq1 := frozen_of_block hRb2 1
        have hq2 := frozen_of_block hRb2 2
        have hq3 := frozen_of_block hRb2 3
        have HRb2 := Lib.hid hRb2
        clear hRb2
        have fin : Below w.heap.size w ((((wr.setCell ⟨w.heap.size, 0, none⟩ (.int .i64 0)).setCell ⟨w.heap.size, 1, none⟩ (.int .i64 0)).setCell ⟨w.heap.size, 2, none⟩ (.slice none 0 0)).setCell ⟨w.heap.size, 3, none⟩ (.bool false)) := by
          refine Below.trans ?_ ((((Below.set 0 _).trans (Below.set 1 _)).trans (Below.set 2 _)).trans (Below.set 3 _))
          exact (((Below.refl _ w).alloc (Nat.le_refl _) _).trans (hb.mono (by simp))).trans (hbw.mono (by omega))
        have HR : Hid (((((wr.setCell ⟨w.heap.size, 0, none⟩ (.int .i64 0)).setCell ⟨w.heap.size, 1, none⟩ (.int .i64 0)).setCell ⟨w.heap.size, 2, none⟩ (.slice none 0 0)).setCell ⟨w.heap.size, 3, none⟩ (.bool false)).heap[w.heap.size]? = some (.cells #[.int .i64 0, .int .i64 0, .slice none 0 0, .bool false] 58 (0, 0))) := by
          have b3 := block_set (block_set (block_set (block_set HRb2.out 0 (.int .i64 0)) 1 (.int .i64 0)) 2 (.slice none 0 0)) 3 (.bool false)
          simpa [Hid] using b3
        have hal : acc.length ≤ 72 := by
          have h1 := congrArg List.length hfl.out
          have h2 := HSM.out
          rw [List.length_append] at h1
          omega
        by_cases hlt : k < rows.length
        · obtain ⟨b1, off1, he1, hc1⟩ := txts_at hat k hlt
          simp only [Option.some.injEq, Addr.mk.injEq, and_true] at he1
          obtain ⟨rfl, rfl⟩ := he1
          have hc1r : wr.cell? ⟨b0, off0 + k, none⟩ = some (.string ⟨rows[k].toArray⟩) := by rw [hbw.cell (p := ⟨b0, off0 + k, none⟩) hb0lt]; exact hc1
          have hpk := hpart k hlt
          have Ht := Lib.hid (List.drop_eq_getElem_cons hlt)
          by_cases hlen : rows[k].length = rows[0].length
          · have hd : ((rows[k].length : Int) != (rows[0].length : Int)) = false := by simp [hlen]
            have Hlen := Lib.hid hlen
            clear hlen
            have hfr := frozen_of_block hGb.out 2
            go_wp2_with (at_builtin; refine wpList_appS rfl _ _ _ _ rfl _ _ elemByte Tryd.underlying9 _ _ _ rfl hownv rfl (by omega) (by omega) ?_; intro a1 c1 w2 hown1 hb1; have hGb2 : w2.heap[G]? = some (.cells #[.int .i64 rows[0].length, .int .i64 rows.length, .slice va acc.length vc, .bool false] 58 (0, 0)) := (by rw [hb1.block G (by omega)]; exact hGb.out); have hg2 := cell_of_block hGb2 2; simp at hg2; have hfr2 := frozen_of_block hGb2 2; have HGb2 := Lib.hid hGb2; clear hGb2)
            go_roundw
            case rel =>
              refine ⟨k + 1, by omega, by go_num, a1, c1, acc ++ rows[k], ?_, ?_, ?_, ?_, ?_⟩
              · have := block_set HGb2.out 2 (.slice a1 (acc.length + rows[k].length) c1)
                rw [Hid]; simpa using this
              · have := hown1.set G 2 (.slice a1 (acc.length + rows[k].length) c1) (by omega)
                simpa using this
              · exact (hbw.trans (hb1.mono (by omega))).trans (Below.set 2 _)
              · rw [Hid, hfl.out, Ht.out, List.flatten_cons, List.append_assoc]
              · rw [Hid, hno.out, Ht.out, allLen, if_pos Hlen.out]
            case measure => simp [intOf]; omega
          · have hd : ((rows[k].length : Int) != (rows[0].length : Int)) = true := by simp; omega
            go_wp2_with fail
            exact noGrid_ret HR.out rfl (by rw [HGA.out, hno.out, Ht.out, allLen, if_neg hlen]; rfl) fin
        · obtain rfl : k = rows.length := by omega
          have hacc : cells = acc := by rw [← HFL.out, hfl.out]; simp
          subst hacc
          have HGB : Hid (gridM p l = cells.all p) := by rw [Hid, HGA.out, hno.out, List.drop_of_length_le (Nat.le_refl _)]; rfl
          have hatv := hownv.at
          clear hlt hk HGA hno hfl
          go_wp2_with fail
          go_loop [53] (fun i => ∃ k : Nat, k ≤ cells.length ∧ i = .int .i64 k ∧ Hid (cells.all p = (cells.drop k).all p)) (fun i => cells.length - (intOf i).toNat)
          case atStart => exact ⟨0, Nat.zero_le _, rfl, rfl⟩
          case round =>
            obtain ⟨k, hk, rfl, hno⟩ := hrel
            by_cases hlt : k < cells.length
            · obtain ⟨b1, off1, rfl, hc1⟩ := byts_at hatv k hlt
              have Ht := Lib.hid (List.drop_eq_getElem_cons hlt)
              have hcl := hF cells[k] wr
              have hEE := hE
              cases hp : p cells[k] with
              | true =>
                rw [hp] at hcl
                have HP := Lib.hid hp
                have HCL := Lib.hid hcl
                clear hp hcl hF
                go_wp2_with fail
                refine HCL.out.mono ?_
                rintro e w2 ⟨rfl, rfl⟩
                go_wp2_with fail
                go_round
                case rel => exact ⟨k + 1, by omega, by go_num, by rw [Hid, hno.out, Ht.out, List.all_cons, HP.out]; rfl⟩
                case measure => simp [intOf]; omega
              | false =>
                rw [hp] at hcl
                have HP := Lib.hid hp
                have HCL := Lib.hid hcl
                clear hp hcl hF
                go_wp2_with fail
                refine HCL.out.mono ?_
                rintro e w2 ⟨rfl, rfl⟩
                go_wp2_with fail
                exact noGrid_ret HR.out rfl (by rw [HGB.out, hno.out, Ht.out, List.all_cons, HP.out]; rfl) fin
            · obtain rfl : k = cells.length := by omega
              have HGT : Hid (gridM p l = true) := by rw [Hid, HGB.out, hno.out, List.drop_length]; rfl
              clear HGB hno hlt hk hE hF
              go_wp2_with fail
              refine bodyPost_ret (v := .tuple #[.agg #[.int .i64 rows[0].length, .int .i64 rows.length, .slice va cells.length vc, .bool false], .bool true]) ?_ rfl ?_
              · have b1 := block_set HRb2.out 0 (.int .i64 rows[0].length)
                have b2 := block_set b1 1 (.int .i64 rows.length)
                have b3 := block_set (block_set b2 2 (.slice va cells.length vc)) 3 (.bool false)
                have r0 := cell_of_block b3 0
                have r1 := cell_of_block b3 1
                have r2 := cell_of_block b3 2
                have r3 := cell_of_block b3 3
                simp at r0 r1 r2 r3
                simp [results, Tryd.results64, go_sem, r0, r1, r2, r3]
              · refine ⟨.inl ⟨HGT.out, va, vc, by rw [HRW.out, HCS.out, hh.out], ?_⟩, ?_⟩
                · rw [HCS.out]
                  exact (((((hownv.set w.heap.size 0 _ (by omega)).set w.heap.size 1 _ (by omega)).set w.heap.size 2 _ (by omega)).set w.heap.size 3 (.bool false) (by omega)).mono (by omega))
                · have hsz := hb.size
                  refine Below.trans ?_ ((((Below.set 0 _).trans (Below.set 1 _)).trans (Below.set 2 _)).trans (Below.set 3 _))
                  exact (((Below.refl _ w).alloc (Nat.le_refl _) _).trans (hb.mono (by simp))).trans (hbw.mono (by omega))
    · have hso' : sizeOK rows[0].length rows.length = false := by simpa using hso
      have HGF : Hid (gridM p l = false) := by rw [Hid, HGM.out, hh.out, if_neg hso]
      clear hso HGM
      have hRb2 : w2.heap[w.heap.size]? = some (.cells #[.int .i64 0, .int .i64 0, .slice none 0 0, .bool false] 58 (0, 0)) := by
        rw [← hw2, Below.heap_alloc _ _ _ hRlt]; exact hRb
      have hbw : Below w.heap.size w w2 := by
        rw [← hw2]
        exact (((Below.refl _ w).alloc (Nat.le_refl _) _).trans (hb.mono (by simp))).alloc (by omega) _
      have HW := Lib.hid hw2
      clear hw2
      have hR0 := cell_of_block hRb2 0
      have hR1 := cell_of_block hRb2 1
      have hR2 := cell_of_block hRb2 2
      have hR3 := cell_of_block hRb2 3
      simp at hR0 hR1 hR2 hR3
      have hq0 := frozen_of_block hRb2 0
      have hq1 := frozen_of_block hRb2 1
      have hq2 := frozen_of_block hRb2 2
      have hq3 := frozen_of_block hRb2 3
      have HRb2 := Lib.hid hRb2
      clear hRb2
      go_wp2_with fail
      refine noGrid_ret (by simpa using block_set (block_set (block_set (block_set HRb2.out 0 (.int .i64 0)) 1 (.int .i64 0)) 2 (.slice none 0 0)) 3 (.bool false)) rfl HGF.out ?_
      exact hbw.trans ((((Below.set 0 _).trans (Below.set 1 _)).trans (Below.set 2 _)).trans (Below.set 3 _))
  · have h71' : 71 < l.length := by omega
    have HGF : Hid (gridM p l = false) := by rw [Hid, gridM, if_neg h71]
    clear h71
    go_enter Tryd.func64, Tryd.ntmps64
    go_wp2_with fail
    refine bodyPost_ret (v := NoGrid) ?_ rfl ⟨.inr ⟨HGF.out, rfl⟩, ?_⟩
    · simp [results, Tryd.results64, go_sem, NoGrid]
    · exact (Below.refl _ w).alloc (Nat.le_refl _) _

theorem readGrid_any (p : UInt8 → Bool) (F : Nat) (hS : Signs F p) (l : List UInt8) (w : World) (hM : HasMax w) (hl : l.length ≤ 1048576) :
    Calls Tryd.prog 64 #[.string ⟨l.toArray⟩, .func (.func F) #[] #[]] w fun e w' => ∃ a cap, e = .returned (.tuple #[.agg #[.int .i64 (grW p l), .int .i64 (grH p l), .slice a (grC p l).length cap, .bool false], .bool (gridM p l)])
      ∧ Owns w' w.heap.size 5 (.slice a (grC p l).length cap) (byts (grC p l)) ∧ Below w.heap.size w w' := by
  refine (readGrid_or p F hS l w hM hl).mono ?_
  rintro e w' ⟨h | h, hb⟩
  · obtain ⟨hg, a, cap, rfl, ho⟩ := h
    exact ⟨a, cap, by rw [grW, grH, grC, if_pos hg, if_pos hg, if_pos hg, hg], by rw [grC, if_pos hg]; exact ho, hb⟩
  · obtain ⟨hg, rfl⟩ := h
    have hn : ¬ gridM p l = true := by rw [hg]; decide
    refine ⟨none, 0, by rw [grW, grH, grC, if_neg hn, if_neg hn, if_neg hn, hg]; rfl, by rw [grC, if_neg hn]; exact Owns.nil _ _ _, hb⟩
end Go.Proofs.YthlbplmghjaeoaaDoor
