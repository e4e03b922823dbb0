/- The first desk, by the model and by the program; its law. -/
import Derived.Test.YteajhjiibenenaaS3
import Derived.Test.YteajhjiibenenaaT3
import Derived.Lib.OthersKept
import Derived.WalkSmall
import Derived.Laws.ResultCell
import Derived.Deep.RegionLaw
import Derived.Deep.DeepCutAuto
import Derived.Outline
namespace Go.Proofs.Yteajhjiibenenaa
open Go.RowKit

/-- The first board. -/
def fbL : List UInt8 := [42, 46, 46, 47, 46, 46, 46, 47, 46, 46, 42]
/-- All its cells hidden. -/
def fvL : List UInt8 := [63, 63, 63, 47, 63, 63, 63, 47, 63, 63, 63]
def fcL : List UInt8 := [42, 46, 46, 46, 46, 46, 46, 46, 42]
/-- So many signs of hidden cells. -/
def qsL (j : Nat) : List UInt8 := List.replicate j 63
theorem fb_size : boSizeM fbL = (3, 3) := by decide +kernel
theorem fb_cells : cellsM fbL = fcL := by decide +kernel
theorem fv_rows : brGo 3 0 (qsL 9) = fvL := by decide +kernel
set_option maxRecDepth 100000 in
set_option maxHeartbeats 800000 in
theorem coBlank_first (w : World) :
    Calls Try.prog 38 #[.string ⟨fbL.toArray⟩] w fun e w' => e = .returned (.string ⟨fvL.toArray⟩) ∧ Below w.heap.size w w' := by
  have hbs := fun w => boSize_any fbL w (by decide)
  have hbc := fun w => boCells_any fbL w (by decide)
  have hbr := fun w => boRows_any (qsL 9) 3 w (by decide) (by decide) (by decide)
  rw [fb_size] at hbs
  rw [fb_cells] at hbc
  rw [fv_rows] at hbr
  have HBS := Lib.hid hbs
  have HBC := Lib.hid hbc
  have HBR := Lib.hid hbr
  have hfl : fcL.length = 9 := rfl
  have HAS : Hid (∀ j (h : j < fcL.length), fcL[j].toNat < 128) := by rw [Hid]; decide +kernel
  clear hbs hbc hbr
  generalize fbL = fb at *
  generalize fvL = fv at *
  generalize fcL = cells at *
  go_enter Try.func38, Try.ntmps38
  go_wp2_with fail
  refine (HBS.out _).mono ?_
  rintro e w1 ⟨rfl, hb1⟩
  go_wp2_with fail
  refine (HBC.out _).mono ?_
  rintro e w2 ⟨rfl, rfl⟩
  go_wp2_with fail
  have hI : (w1.iter ⟨cells.toArray⟩ 0).heap[w1.heap.size]? = some (.stringIter ⟨cells.toArray⟩ 0) := World.iter_heap w1 _ _
  have hbi : Below w.heap.size w (w1.iter ⟨cells.toArray⟩ 0) := hb1.alloc hb1.size _
  generalize w1.iter ⟨cells.toArray⟩ 0 = w4 at *
  generalize hII : w1.heap.size = I at *
  have HII := Lib.hid hII
  have HB1 := Lib.hid hb1
  clear hII hb1
  go_loopw [5] (fun s wr => ∃ j : Nat, j ≤ cells.length ∧ s = .string ⟨(qsL j).toArray⟩ ∧ Hid (wr.heap[I]? = some (.stringIter ⟨cells.toArray⟩ j)) ∧ Below I w4 wr) (fun _ wr => cells.length - wr.iterPos I)
  case atStart => exact ⟨0, Nat.zero_le _, rfl, hI, Below.refl _ _⟩
  case round =>
    obtain ⟨j, hj, rfl, hIr, hb⟩ := hrel
    have hIlt := block_lt hIr.out
    by_cases hlt : j < cells.length
    · have hasc := HAS.out j hlt
      have hnx := fun ty => Lib.run_next_ascii_at (P := Try.prog) wr I ⟨cells.toArray⟩ j ty hIr.out (by simpa [ByteArray.size] using hlt) (by simpa using hasc)
      have hpos := Lib.hid (iterPos_at hIr.out)
      have i1 := iterAt_at hIlt ⟨cells.toArray⟩ (j + 1)
      have i2 := iterAt_below wr I ⟨cells.toArray⟩ (j + 1)
      have hln : ¬ (9223372036854775807 < (qsL j).length + 1) := by simp only [qsL, List.length_replicate]; omega
      have hst : (⟨(qsL j).toArray⟩ : ByteArray) ++ ⟨#[63]⟩ = ⟨(qsL (j + 1)).toArray⟩ := by
        unfold qsL; rw [List.replicate_succ']; apply ByteArray.ext; simp [-List.toArray_replicate]
      clear hasc
      go_wp2_with fail
      clear hnx
      go_roundw
      case rel => exact ⟨j + 1, by omega, by rw [← hst], i1, hb.trans i2⟩
      case measure => rw [hpos.out, iterPos_at i1]; omega
    · obtain rfl : j = cells.length := by omega
      have hnx := fun ty => Lib.run_next_end_at (P := Try.prog) wr I ⟨cells.toArray⟩ cells.length ty hIr.out (by simp [ByteArray.size])
      have hB9 := hbi.trans (hb.mono (by rw [← HII.out]; exact HB1.out.size))
      rw [hfl] at *
      go_wp2_with fail
      refine (HBR.out _).mono ?_
      rintro e w5 ⟨rfl, rfl⟩
      go_wp2_with fail
      go_ret
      exact ⟨rfl, hB9⟩
theorem infDesk3 : (Try.prog.info? 43).map (·.size) = some 2 := by kernel_rfl
set_option maxRecDepth 100000 in
set_option maxHeartbeats 800000 in
theorem sFirstDesk_any (w : World) :
    Calls Try.prog 17 #[] w fun e w' => e = .returned (.agg #[.string ⟨fbL.toArray⟩, .string ⟨fvL.toArray⟩]) ∧ Below w.heap.size w w' := by
  have HC := Lib.hid (fun w => coBlank_first w)
  unfold fbL at HC
  go_enter Try.func17, Try.ntmps17
  go_wp2_with fail
  refine (HC.out _).mono ?_
  have hb : Below w.heap.size w (w.alloc (.cells #[.string ⟨#[]⟩, .string ⟨#[]⟩] 43)) := (Below.refl _ _).alloc (Nat.le_refl _) _
  have hG := heap_alloc_new w (.cells #[.string ⟨#[]⟩, .string ⟨#[]⟩] 43)
  rintro e w1 ⟨rfl, hb1⟩
  have hB1 := hb.trans (hb1.mono hb.size)
  have HG1 := Lib.hid ((hb1.block _ (block_lt hG)).trans hG)
  have f0 := cell_of_block HG1.out 0
  have f1 := cell_of_block HG1.out 1
  have ff := frozen_of_block HG1.out
  simp at f0 f1
  clear hb hb1 hG
  go_wp2_with fail
  have hE := block_set (block_set HG1.out 0 (.string ⟨fbL.toArray⟩)) 1 (.string ⟨fvL.toArray⟩)
  have hbe := (Below.set (w := w1) (g := w.heap.size) 0 (.string ⟨fbL.toArray⟩)).trans ((Below.set (w := w1.setCell ⟨w.heap.size, 0, none⟩ (.string ⟨fbL.toArray⟩)) (g := w.heap.size) 1 (.string ⟨fvL.toArray⟩)))
  exact bodyPost_ret (results_cell_row rfl _ _ _ _ _ _ _ rfl hE Try.underlying43 rfl infDesk3) rfl ⟨rfl, hB1.trans hbe⟩
set_option maxRecDepth 100000 in
set_option maxHeartbeats 800000 in
theorem iFirstDesk_any (w : World) :
    Calls Try.prog 18 #[] w fun e w' => e = .returned (.agg #[.string ⟨fbL.toArray⟩, .string ⟨fvL.toArray⟩]) ∧ Below w.heap.size w w' := by
  go_enter Try.func18, Try.ntmps18
  go_wp2_with fail
  have hE := heap_alloc_new w (.cells #[.string ⟨fbL.toArray⟩, .string ⟨fvL.toArray⟩] 43)
  exact bodyPost_ret (results_cell_row rfl _ _ _ _ _ _ _ rfl hE Try.underlying43 rfl infDesk3) rfl ⟨rfl, (Below.refl _ _).alloc (Nat.le_refl _) _⟩
set_option maxRecDepth 100000 in
set_option maxHeartbeats 800000 in
theorem eqDesk_same (l m : List UInt8) (w : World) :
    Calls Try.prog 19 #[.agg #[.string ⟨l.toArray⟩, .string ⟨m.toArray⟩], .agg #[.string ⟨l.toArray⟩, .string ⟨m.toArray⟩]] w fun e w' => e = .returned (.bool true) ∧ Below w.heap.size w w' := by
  go_enter Try.func19, Try.ntmps19
  go_wp2_with fail
  go_ret
  exact ⟨rfl, ((Below.refl _ _).alloc (Nat.le_refl _) _).alloc (by simp) _⟩
set_option maxRecDepth 100000 in
set_option maxHeartbeats 800000 in
theorem law_FirstDesk (w : World) :
    Calls Try.prog 5 #[] w fun e w' => e = .returned (.bool true) ∧ Below w.heap.size w w' := by
  have HS := Lib.hid (fun w => sFirstDesk_any w)
  have HI := Lib.hid (fun w => iFirstDesk_any w)
  have HE := Lib.hid (fun w => eqDesk_same fbL fvL w)
  generalize fbL = l at *
  generalize fvL = m at *
  go_enter Try.func5, Try.ntmps5
  go_wp2_with fail
  refine (HS.out _).mono ?_
  rintro e w1 ⟨rfl, hb1⟩
  go_upto_region 1 with fail
  have ha : Below w1.heap.size w1 (w1.alloc (.cells #[.string ⟨l.toArray⟩, .string ⟨m.toArray⟩] 43)) := (Below.refl _ _).alloc (Nat.le_refl _) _
  have hG := heap_alloc_new w1 (.cells #[.string ⟨l.toArray⟩, .string ⟨m.toArray⟩] 43)
  have hB2 := hb1.trans (ha.mono hb1.size)
  generalize w1.alloc (.cells #[.string ⟨l.toArray⟩, .string ⟨m.toArray⟩] 43) = w2 at *
  generalize w1.heap.size = G at *
  clear ha hb1
  go_wp2_with fail
  refine (HI.out _).mono ?_
  rintro e w3 ⟨rfl, hb3⟩
  have hG3 := (hb3.block _ (block_lt hG)).trans hG
  have hB3 := hB2.trans (hb3.mono hB2.size)
  clear hb3 hB2 hG
  go_upto_region 3 with fail
  have ha : Below w3.heap.size w3 (w3.alloc (.cells #[.string ⟨l.toArray⟩, .string ⟨m.toArray⟩] 43)) := (Below.refl _ _).alloc (Nat.le_refl _) _
  have hH := heap_alloc_new w3 (.cells #[.string ⟨l.toArray⟩, .string ⟨m.toArray⟩] 43)
  have hG4 := (ha.block _ (block_lt hG3)).trans hG3
  have hB4 := hB3.trans (ha.mono hB3.size)
  generalize w3.alloc (.cells #[.string ⟨l.toArray⟩, .string ⟨m.toArray⟩] 43) = w4 at *
  generalize w3.heap.size = U at *
  clear ha hB3 hG3
  have f0 := cell_of_block hG4 0
  have f1 := cell_of_block hG4 1
  have g0 := cell_of_block hH 0
  have g1 := cell_of_block hH 1
  simp at f0 f1 g0 g1
  clear hG4 hH
  go_wp2_with fail
  refine (HE.out _).mono ?_
  rintro e w5 ⟨rfl, hb5⟩
  have hB5 := hB4.trans (hb5.mono hB4.size)
  clear hB4 hb5 f0 f1 g0 g1
  go_wp2_with fail
  go_ret
  exact ⟨rfl, hB5⟩
end Go.Proofs.Yteajhjiibenenaa
