/- Whether a board fits a clue, by the model. -/
import Derived.Test.YthlbplmghjaeoaaDoorAG
import Derived.Test.YthlbplmghjaeoaaDoorA8
namespace Go.Proofs.YthlbplmghjaeoaaDoor
open Go.RowKit

/-- Are there a board and a clue of its size? Does the board fit it? -/
def dfB (l : List UInt8) (c : Clu) : Bool := (boGoodM l && hsB (gW l) (gH l)) && cluB (gW l) (gH l) c
def dfF (l : List UInt8) (c : Clu) : Bool := dfB l c && fitC (gW l) (gCells l) c
theorem df_no {l : List UInt8} {c : Clu} (h : (boGoodM l && hsB (gW l) (gH l)) = false) : dfB l c = false ∧ dfF l c = false := by simp [dfF, dfB, h]
theorem df_bad {l : List UInt8} {c : Clu} (h : cluB (gW l) (gH l) c = false) : dfB l c = false ∧ dfF l c = false := by simp [dfF, dfB, h]
theorem df_yes {l : List UInt8} {W H : Nat} {cells : List UInt8} {c : Clu} (hB : Brd l W H cells) (hs : hsB W H = true) (h : cluB W H c = true) : dfB l c = true ∧ dfF l c = fitC W cells c := by
  obtain ⟨g1, g2, g3⟩ := hB.grid
  simp [dfF, dfB, g1, g2, g3, hB.good, hs, h]
set_option maxRecDepth 100000 in
set_option maxHeartbeats 1600000 in
theorem pzHidden_any (l : List UInt8) (w : World) (hl : l.length ≤ 1048576) :
    Calls Tryd.prog 30 #[.string ⟨l.toArray⟩] w fun e w' => e = .returned (.bool (boGoodM l && hsB (gW l) (gH l))) ∧ Below w.heap.size w w' := by
  have HB := Lib.hid (fun w => boGood_any l w hl)
  have HS := Lib.hid (fun w => boSize_any l w hl)
  cases hg : boGoodM l with
  | false =>
    rw [hg] at HB
    go_enter Tryd.func30, Tryd.ntmps30
    go_wp2_with fail
    refine (HB.out _).mono ?_
    rintro e w1 ⟨rfl, hb1⟩
    go_wp2_with fail
    go_ret
    exact ⟨rfl, hb1⟩
  | true =>
    rw [hg] at HB
    have hB := Brd.of hg
    generalize headLen (splitB 47 l) = W at *
    generalize (splitB 47 l).length = H at *
    generalize cellsM l = cells at *
    obtain ⟨g1, g2, g3⟩ := hB.grid
    rw [g1, g2]
    have hsz := hB.size
    simp only [hsz] at HS
    have HP := Lib.hid (fun w => pzSize_any (W : Int) (H : Int) w)
    clear g1 g2 g3 hsz hB hg
    go_enter Tryd.func30, Tryd.ntmps30
    go_wp2_with fail
    refine (HB.out _).mono ?_
    rintro e w1 ⟨rfl, hb1⟩
    go_wp2_with fail
    refine (HS.out _).mono ?_
    rintro e w2 ⟨rfl, hb2⟩
    have hb3 := hb1.trans (hb2.mono hb1.size)
    clear hb1 hb2
    go_wp2_with fail
    refine (HP.out _).mono ?_
    rintro e w3 ⟨rfl, rfl⟩
    go_wp2_with fail
    go_ret
    exact ⟨rfl, hb3⟩
set_option maxRecDepth 100000 in
set_option maxHeartbeats 1600000 in
theorem sDoesFit_any (c : Clu) (l : List UInt8) (w : World) (hl : l.length ≤ 1048576) :
    Calls Tryd.prog 9 #[valC c, .string ⟨l.toArray⟩] w fun e w' => e = .returned (.tuple #[.bool (dfF l c), .bool (dfB l c)]) ∧ Below w.heap.size w w' := by
  have hb : Below w.heap.size w (w.alloc (.cells #[.int .i64 c.k, .int .i64 c.a, .int .i64 c.b] 26)) := (Below.refl _ _).alloc (Nat.le_refl _) _
  have hG := heap_alloc_new w (.cells #[.int .i64 c.k, .int .i64 c.a, .int .i64 c.b] 26)
  have hv : valC c = .agg #[.int .i64 c.k, .int .i64 c.a, .int .i64 c.b] := rfl
  have HH := Lib.hid (fun w => pzHidden_any l w hl)
  have HS := Lib.hid (fun w => boSize_any l w hl)
  cases hh : (boGoodM l && hsB (gW l) (gH l)) with
  | false =>
    have HN := Lib.hid (df_no (c := c) hh)
    rw [hh] at HH
    rw [hv]
    clear hh
    go_enter Tryd.func9, Tryd.ntmps9
    go_wp2_with fail
    refine (HH.out _).mono ?_
    rintro e w1 ⟨rfl, hb1⟩
    go_wp2_with fail
    go_ret2
    exact ⟨by rw [HN.out.1, HN.out.2]; rfl, hb.trans (hb1.mono hb.size)⟩
  | true =>
    rw [hh] at HH
    obtain ⟨hg, hs⟩ := Bool.and_eq_true_iff.1 hh
    clear hh
    have hB := Brd.of hg
    have HN := Lib.hid (df_bad (l := l) (c := c))
    generalize headLen (splitB 47 l) = W at *
    generalize (splitB 47 l).length = H at *
    generalize cellsM l = cells at *
    obtain ⟨g1, g2, g3⟩ := hB.grid
    rw [g1, g2] at HN hs
    have hsz := hB.size
    simp only [hsz] at HS
    have HC := Lib.hid (fun w => pzClue_any W H c w ⟨hB.w1, hB.w8⟩ ⟨hB.h1, hB.h8⟩)
    cases hc : cluB W H c with
    | false =>
      have HN2 := Lib.hid (HN.out hc)
      rw [hc] at HC
      clear g1 g2 g3 hsz hB hg HN hc hs
      rw [hv] at HC ⊢
      go_enter Tryd.func9, Tryd.ntmps9
      go_wp2_with fail
      generalize w.alloc (.cells #[.int .i64 c.k, .int .i64 c.a, .int .i64 c.b] 26) = w0 at *
      refine (HH.out _).mono ?_
      rintro e w1 ⟨rfl, hb1⟩
      go_wp2_with fail
      refine (HS.out _).mono ?_
      rintro e w2 ⟨rfl, hb2⟩
      have hb3' := hb1.trans (hb2.mono hb1.size)
      have hb3 := hb.trans (hb3'.mono hb.size)
      have hG2 := (hb3'.block _ (block_lt hG)).trans hG
      have f0 := cell_of_block hG2 0
      have f1 := cell_of_block hG2 1
      have f2 := cell_of_block hG2 2
      simp at f0 f1 f2
      clear hb1 hb2 hb hG
      go_wp2_with fail
      refine (HC.out _).mono ?_
      rintro e w3 ⟨rfl, hb4⟩
      have hb5 := hb3.trans (hb4.mono hb3.size)
      go_wp2_with fail
      go_ret2
      exact ⟨by rw [HN2.out.1, HN2.out.2]; rfl, hb5⟩
    | true =>
      have HY := Lib.hid (df_yes hB hs hc)
      have HF := Lib.hid (fun w => pzFits_any l W H cells c w hl hB hc)
      rw [hc] at HC
      clear g1 g2 g3 hsz hB hg HN hc hs
      rw [hv] at HC HF ⊢
      go_enter Tryd.func9, Tryd.ntmps9
      go_wp2_with fail
      generalize w.alloc (.cells #[.int .i64 c.k, .int .i64 c.a, .int .i64 c.b] 26) = w0 at *
      refine (HH.out _).mono ?_
      rintro e w1 ⟨rfl, hb1⟩
      go_wp2_with fail
      refine (HS.out _).mono ?_
      rintro e w2 ⟨rfl, hb2⟩
      have hb3' := hb1.trans (hb2.mono hb1.size)
      have hb3 := hb.trans (hb3'.mono hb.size)
      have hG2 := (hb3'.block _ (block_lt hG)).trans hG
      have f0 := cell_of_block hG2 0
      have f1 := cell_of_block hG2 1
      have f2 := cell_of_block hG2 2
      simp at f0 f1 f2
      clear hb1 hb2 hb hG
      go_wp2_with fail
      refine (HC.out _).mono ?_
      rintro e w3 ⟨rfl, hb4⟩
      have hb5 := hb3.trans (hb4.mono hb3.size)
      have hG3 := (hb4.block _ (block_lt hG2)).trans hG2
      replace f0 := cell_of_block hG3 0
      replace f1 := cell_of_block hG3 1
      replace f2 := cell_of_block hG3 2
      simp at f0 f1 f2
      clear hb3 hb4 hb3' hG2
      go_wp2_with fail
      refine (HF.out _).mono ?_
      rintro e w4 ⟨rfl, hb6⟩
      have hb7 := hb5.trans (hb6.mono hb5.size)
      go_wp2_with fail
      go_ret2
      exact ⟨by rw [HY.out.1, HY.out.2]; rfl, hb7⟩
end Go.Proofs.YthlbplmghjaeoaaDoor
