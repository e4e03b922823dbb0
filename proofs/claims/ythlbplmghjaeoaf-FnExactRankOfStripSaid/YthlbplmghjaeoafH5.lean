/- Strips: ways, added up by the program. -/
import Derived.Test.YthlbplmghjaeoafH1
import Derived.Test.YthlbplmghjaeoafGY1
import Derived.Outline
import Derived.Laws.Rows
import Derived.Laws.Tables
import Derived.Laws.CopyRow
import Derived.Deep.MidRow
import Derived.Laws.CopyOwn
import Derived.Deep.DeepCutAuto
namespace Go.Proofs.Ythlbplmghjaeoaf
open Go.RowKit

/-- Forty-one numbers. -/
def wvL (f : Nat → Nat) : List Value := (List.range 41).map fun k => Value.int .i64 (f k : Nat)
def wvA (f : Nat → Nat) : Array Value := (wvL f).toArray
theorem wvA_size (f : Nat → Nat) : (wvA f).size = 41 := by simp [wvA, wvL]
theorem wvA_get (f : Nat → Nat) {k : Nat} (h : k < 41) : (wvA f)[k]? = some (.int .i64 (f k : Nat)) := by simp [wvA, wvL, h]
theorem wvA_congr {f g : Nat → Nat} (h : ∀ k, k < 41 → f k = g k) : wvA f = wvA g := by
  have : wvL f = wvL g := List.map_congr_left fun k hk => by rw [h k (by simpa using hk)]
  rw [wvA, wvA, this]
theorem wvA_set (f : Nat → Nat) (k v : Nat) (hk : k < 41) : (wvA f).setIfInBounds k (.int .i64 (v : Nat)) = wvA (fun i => if i = k then v else f i) := by
  apply Array.ext'
  simp only [wvA, List.setIfInBounds_toArray]
  apply List.ext_getElem?
  intro i
  rw [List.getElem?_set]
  by_cases hi : i < 41
  · by_cases h : k = i
    · subst h; simp [wvL, hk]
    · simp [wvL, hi, h, Ne.symm h]
  · simp [wvL, hi]; omega
theorem wvA_one (f : Nat → Nat) : (wvA f).all (·.oneCell') = true := by
  rw [wvA]
  apply all_oneCell_toArray
  intro v hv
  simp only [wvL, List.mem_map] at hv
  obtain ⟨k, _, rfl⟩ := hv
  rfl
theorem wvA_nil : wvA (fun _ => 0) = wvA (fun _ => 0) := rfl
theorem wvZero (w : World) : (zeroValue 29).run Try.prog w = .ok (.agg (wvA fun _ => 0)) w := by kernel_rfl
theorem wvBuilt : Try.prog.built 29 [] = some (wvA fun _ => 0) := by kernel_rfl
theorem wvInfo : (Try.prog.info? 29).map (·.size) = some 41 := by kernel_rfl
theorem wvInfoA (f : Nat → Nat) : (Try.prog.info? 29).map (·.size) = some (wvA f).size := by rw [wvA_size]; exact wvInfo
theorem slice41 (b n : Nat) (hn : n ≤ 41) (w : World) : (Instr.sliceAt 29 (.pointer (some ⟨b, 0, none⟩)) none (some (.int .i64 n)) none).run Try.prog w = .ok (.slice (some ⟨b, 0, none⟩) n 41) w := by
  simp [Instr.sliceAt, Instr.sliceBounds, Instr.sliceBound, Instr.sureAddr, asIntOf, run_underlying Try.underlying29, Try.sizeOf3, Addr.add_lit]
  intro h; omega
/-- What plus has made behind k rounds. -/
def plusK (a b : Nat → Nat) (g k j : Nat) : Nat := if j < k + g then a j + shiftF b g j else a j
theorem plusK_zero (a b : Nat → Nat) (g : Nat) : wvA (plusK a b g 0) = wvA a := wvA_congr fun j _ => by
  unfold plusK
  by_cases h : j < 0 + g
  · rw [if_pos h, shiftF, if_neg (by omega), Nat.add_zero]
  · rw [if_neg h]
theorem plusK_all (a b : Nat → Nat) (g k : Nat) (h : k + g = 41) : wvA (plusK a b g k) = wvA (fun j => a j + shiftF b g j) := wvA_congr fun j hj => by
  unfold plusK; rw [if_pos (by omega)]
theorem plusK_next (a b : Nat → Nat) (g k : Nat) (h : k + g < 41) : (wvA (plusK a b g k)).setIfInBounds (k + g) (.int .i64 ((a (k + g) + b k : Nat) : Int)) = wvA (plusK a b g (k + 1)) := by
  rw [wvA_set _ _ _ h]
  refine wvA_congr fun j hj => ?_
  unfold plusK
  by_cases h1 : j = k + g
  · subst h1
    rw [if_pos rfl, if_pos (show k + g < k + 1 + g by omega), shiftF, if_pos (show g ≤ k + g by omega), Nat.add_sub_cancel]
  · rw [if_neg h1]
    by_cases h2 : j < k + g
    · rw [if_pos h2, if_pos (show j < k + 1 + g by omega)]
    · rw [if_neg h2, if_neg (show ¬ j < k + 1 + g by omega)]

theorem awayH {w : World} {g b : Nat} (h : b ≠ g) (j : Nat) (v : Value) : (w.setCell ⟨g, j, none⟩ v).heap[b]? = w.heap[b]? := by
  simp [World.setCell, Array.getElem?_modify, Ne.symm h]
/-- Two blocks made. -/
theorem alloc2 (w : World) (o1 o2 : Obj) {w2 : World} (h : w2 = (w.alloc o1).alloc o2) :
    Below w.heap.size w w2 ∧ w2.heap[w.heap.size]? = some o1 ∧ w2.heap[w.heap.size + 1]? = some o2 ∧ w2.heap.size = w.heap.size + 2 := by
  subst h
  refine ⟨((Below.refl _ _).alloc (Nat.le_refl _) _).alloc (by simp) _, ?_, ?_, ?_⟩
  · show ((w.heap.push o1).push o2)[w.heap.size]? = _
    simp only [Array.getElem?_push, Array.size_push]
    rw [if_neg (by omega), if_pos trivial]
  · show ((w.heap.push o1).push o2)[w.heap.size + 1]? = _
    simp only [Array.getElem?_push, Array.size_push]
    rw [if_pos trivial]
  · show ((w.heap.push o1).push o2).size = _
    simp
/-- Three blocks made. -/
theorem alloc3 (w : World) (o1 o2 o3 : Obj) {w3 : World} (h : w3 = ((w.alloc o1).alloc o2).alloc o3) :
    Below w.heap.size w w3 ∧ w3.heap[w.heap.size]? = some o1 ∧ w3.heap[w.heap.size + 1]? = some o2 ∧ w3.heap[w.heap.size + 2]? = some o3 ∧ w3.heap.size = w.heap.size + 3 := by
  subst h
  refine ⟨(((Below.refl _ _).alloc (Nat.le_refl _) _).alloc (by simp) _).alloc (by simp; omega) _, ?_, ?_, ?_, ?_⟩
  · show (((w.heap.push o1).push o2).push o3)[w.heap.size]? = _
    simp only [Array.getElem?_push, Array.size_push]
    rw [if_neg (by omega), if_neg (by omega), if_pos trivial]
  · show (((w.heap.push o1).push o2).push o3)[w.heap.size + 1]? = _
    simp only [Array.getElem?_push, Array.size_push]
    rw [if_neg (by omega), if_pos trivial]
  · show (((w.heap.push o1).push o2).push o3)[w.heap.size + 2]? = _
    simp only [Array.getElem?_push, Array.size_push]
    rw [if_pos trivial]
  · show (((w.heap.push o1).push o2).push o3).size = _
    simp

set_option maxRecDepth 100000 in
set_option maxHeartbeats 3200000 in
theorem plus_any (a b : Nat → Nat) (g : Nat) (w : World) (hg : g ≤ 40) (ha : ∀ k, k < 41 → a k ≤ 4611686018427387904) (hb : ∀ k, k < 41 → b k ≤ 4611686018427387903) :
    Calls Try.prog 33 #[.agg (wvA a), .agg (wvA b), .int .i64 g] w fun e w' => e = .returned (.agg (wvA (fun j => a j + shiftF b g j))) ∧ Below w.heap.size w w' := by
  have hz := fun w => wvZero w
  have hi := wvInfo
  have hza := wvA_size (fun _ => 0)
  have hsa := wvA_size a
  have hsb := wvA_size b
  have HZA := Lib.hid (wvA_size (fun _ => 0))
  generalize hz0 : wvA (fun _ => 0) = z0 at *
  clear hz0
  go_enter Try.func33, Try.ntmps33
  go_upto_region 1 with fail
  obtain ⟨w3, hw3⟩ : ∃ w3, w3 = ((w.alloc (.cells (wvA a) 29)).alloc (.cells (wvA b) 29)).alloc (.cells z0 29) := ⟨_, rfl⟩
  obtain ⟨hb0, hB0, hB1, hB2, hs3⟩ := alloc3 w _ _ _ hw3
  rw [← hw3]
  clear hw3 hz hza
  rw [← plusK_zero a b g] at hB0
  obtain ⟨n, hn⟩ : ∃ n : Nat, n + g = 41 := ⟨41 - g, by omega⟩
  have hnz : (41 : Int) - (g : Int) = (n : Int) := by omega
  have hsl := fun w' => slice41 (w.heap.size + 1) n (by omega) w'
  rw [← hnz] at hsl
  have HNZ := Lib.hid hnz
  clear hnz
  go_wp2_with fail
  clear hsl
  go_loopw [13] (fun v wr => ∃ k : Nat, k ≤ n ∧ v = .int .i64 k ∧ Hid (wr.heap[w.heap.size]? = some (.cells (wvA (plusK a b g k)) 29 (0, 0))) ∧ Hid (wr.heap[w.heap.size + 1]? = some (.cells (wvA b) 29 (0, 0))) ∧ Hid (wr.heap[w.heap.size + 2]? = some (.cells z0 29 (0, 0))) ∧ Below w.heap.size w wr) (fun v _ => n - (intOf v).toNat)
  case atStart => exact ⟨0, Nat.zero_le _, rfl, hB0, hB1, hB2, hb0⟩
  case round =>
    clear hB0 hB1 hB2 hb0
    obtain ⟨k, hk, rfl, hB0, hB1, hB2, hb0⟩ := hrel
    by_cases hlt : k < n
    · have hc1 := cell_of_block hB1.out k
      rw [wvA_get b (by omega)] at hc1
      have hc0 := cell_of_block hB0.out (k + g)
      rw [wvA_get _ (by omega)] at hc0
      have hpk : plusK a b g k (k + g) = a (k + g) := by rw [plusK, if_neg (by omega)]
      rw [hpk] at hc0
      have hbk := hb k (by omega)
      have hak := ha (k + g) (by omega)
      have hfr := frozen_of_block hB0.out (k + g)
      have hnx := Lib.hid (plusK_next a b g k (by omega))
      clear hpk
      go_wp2_with fail
      go_roundw
      case rel =>
        have hx := block_set hB0.out (k + g) (.int .i64 ((a (k + g) : Int) + (b k : Int)))
        rw [show ((a (k + g) : Int) + (b k : Int)) = ((a (k + g) + b k : Nat) : Int) by omega] at hx ⊢
        rw [hnx.out] at hx
        exact ⟨k + 1, by omega, by go_num, hx, (awayH (by omega) _ _).trans hB1.out, (awayH (by omega) _ _).trans hB2.out, hb0.trans (Below.set _ _)⟩
      case measure => simp [intOf]; omega
    · obtain rfl : k = n := by omega
      have hB0' := hB0.out
      rw [plusK_all a b g k hn] at hB0'
      clear hB0
      go_wp2_with (first
        | (refine wpList_load_row rfl _ _ rfl w.heap.size rfl 29 (wvA fun j => a j + shiftF b g j) (0, 0) _ hB0' Try.underlying29 rfl (wvInfoA _) ?_)
        | (refine wpList_store_row rfl _ _ _ rfl (w.heap.size + 2) (wvA fun j => a j + shiftF b g j) rfl rfl 29 z0 hB2.out (wvInfoA _) (by rw [wvA_size, HZA.out]) (wvA_one _) ?_))
      have hlv := run_loadVar_row (P := Try.prog) (wr.setRow (w.heap.size + 2) (wvA fun j => a j + shiftF b g j)) (w.heap.size + 2) 29 29 (wvA fun j => a j + shiftF b g j) (0, 0) _ (setRow_heap wr _ z0 _ _ _ hB2.out) Try.underlying29 rfl (wvInfoA _)
      refine bodyPost_ret (v := .agg (wvA fun j => a j + shiftF b g j)) ?_ rfl ⟨rfl, below_setRow hb0 (by omega) _⟩
      simp [results, Try.results33, asAddr, Act.put, hlv]
end Go.Proofs.Ythlbplmghjaeoaf
