/- Strips: counts of lists that fit, by the program. -/
import Derived.Test.YtajabfegeeepeaaHA
import Derived.Test.YtajabfegeeepeaaHB
namespace Go.Proofs.Ytajabfegeeepeaa
open Go.RowKit

/-- The ways in which lists fit what may be a strip. -/
def cwT (l : List UInt8) (K : Nat) : Nat := if stM l = true then fitW l [] K else 0
theorem cwT_yes {l : List UInt8} (h : stM l = true) : cwT l = fitW l [] := by funext K; rw [cwT, if_pos h]
theorem cwT_no {l : List UInt8} (h : stM l = false) : cwT l = fun _ => 0 := by funext K; rw [cwT, h]; rfl
theorem cwT_total (l : List UInt8) : sumN 41 (cwT l) ≤ 4611686018427387904 := by
  cases h : stM l with
  | true => rw [cwT_yes h]; exact fitW_tot40 l [] (stM_facts h).2.1
  | false => rw [cwT_no h, sumN_zero]; decide

set_option maxRecDepth 100000 in
set_option maxHeartbeats 3200000 in
theorem readWays_any (l : List UInt8) (w : World) (hl : l.length ≤ 1048576) :
    Calls Try.prog 54 #[.string ⟨l.toArray⟩] w fun e w' => e = .returned (.tuple #[.agg (wvA (cwT l)), .bool (stM l)]) ∧ Below w.heap.size w w' := by
  have hz := fun w => wvZero w
  have hbt := wvBuilt
  have hst := fun w => iIsStrip_any l w hl
  have hA0 : (w.alloc (.cells (wvA fun _ => 0) 54)).heap[w.heap.size]? = some (.cells (wvA fun _ => 0) 54 (0, 0)) := heap_alloc_new w _
  have hb0 : Below w.heap.size w (w.alloc (.cells (wvA fun _ => 0) 54)) := (Below.refl _ _).alloc (Nat.le_refl _) _
  have hA0l := block_lt hA0
  cases hg : stM l with
  | false =>
    rw [hg] at hst
    have HST := Lib.hid hst
    rw [cwT_no hg]
    clear hst hg
    go_enter Try.func54, Try.ntmps54
    go_wp2_with fail
    generalize w.alloc (.cells (wvA fun _ => 0) 54) = w1 at *
    refine (HST.out _).mono ?_
    rintro e w2 ⟨rfl, hb2⟩
    have hA2 := (hb2.block _ hA0l).trans hA0
    go_wp2_with (first
      | (refine wpList_store_row rfl _ _ _ rfl (w.heap.size) (wvA fun _ => 0) rfl rfl 54 _ hA2 (wvInfoA _) (by simp only [wvA_size]) (wvA_one _) ?_))
    have hlv := run_loadVar_row (P := Try.prog) (w2.setRow w.heap.size (wvA fun _ => 0)) w.heap.size 54 54 (wvA fun _ => 0) (0, 0) _ (setRow_heap w2 _ _ _ _ _ hA2) Try.underlying54 rfl (wvInfoA _)
    refine bodyPost_ret (v := .tuple #[.agg (wvA fun _ => 0), .bool false]) ?_ rfl ⟨rfl, below_setRow (hb0.trans (hb2.mono hb0.size)) (Nat.le_refl _) _⟩
    simp [results, Try.results54, asAddr, Act.put, hlv]
  | true =>
    rw [hg] at hst
    have HST := Lib.hid hst
    have hfw : ∀ w, Calls Try.prog 47 #[.string ⟨l.toArray⟩, .string ⟨#[]⟩] w fun e w' => e = .returned (.agg (wvA (fitW l []))) ∧ Below w.heap.size w w' := fun w => fittingWays_any l [] w (stM_facts hg).2.1 (by simp)
    have HFW := Lib.hid hfw
    rw [cwT_yes hg]
    clear hst hg hfw
    go_enter Try.func54, Try.ntmps54
    go_wp2_with fail
    generalize w.alloc (.cells (wvA fun _ => 0) 54) = w1 at *
    refine (HST.out _).mono ?_
    rintro e w2 ⟨rfl, hb2⟩
    have hA2 := (hb2.block _ hA0l).trans hA0
    go_wp2_with fail
    refine (HFW.out _).mono ?_
    rintro e w3 ⟨rfl, hb3⟩
    have hA3 := (hb3.block _ (block_lt hA2)).trans hA2
    have hb03 := (hb0.trans (hb2.mono hb0.size)).trans (hb3.mono (by have := hb2.size; have := hb0.size; omega))
    go_wp2_with (first
      | (refine wpList_store_row rfl _ _ _ rfl (w.heap.size) (wvA (fitW l [])) rfl rfl 54 _ hA3 (wvInfoA _) (by simp only [wvA_size]) (wvA_one _) ?_))
    have hlv := run_loadVar_row (P := Try.prog) (w3.setRow w.heap.size (wvA (fitW l []))) w.heap.size 54 54 (wvA (fitW l [])) (0, 0) _ (setRow_heap w3 _ _ _ _ _ hA3) Try.underlying54 rfl (wvInfoA _)
    refine bodyPost_ret (v := .tuple #[.agg (wvA (fitW l [])), .bool true]) ?_ rfl ⟨rfl, below_setRow hb03 (Nat.le_refl _) _⟩
    simp [results, Try.results54, asAddr, Act.put, hlv]

end Go.Proofs.Ytajabfegeeepeaa
