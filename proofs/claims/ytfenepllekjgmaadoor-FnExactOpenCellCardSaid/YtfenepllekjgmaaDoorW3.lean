/- Views: the program reads a view. -/
import Derived.Test.YtfenepllekjgmaaDoorW2
import Derived.Deep.RegionHeld3
import Derived.Deep.DeepCutAuto
import Derived.Outline
namespace Go.Proofs.YtfenepllekjgmaaDoor
open Go.RowKit

/-- The hidden cells of a view's cells. -/
def unsB (cells : List UInt8) (k : Nat) : Bool := cells.getD k 0 == 63
def hidM (cells : List UInt8) : List Nat := filtM (unsB cells) cells.length
theorem hidM_lt (cells : List UInt8) (x : Nat) (h : x ∈ hidM cells) : x < cells.length := by
  rw [hidM, filtM, List.mem_filter, List.mem_range] at h
  exact h.1
theorem hid_places (cells : List UInt8) : places 63 cells = hidM cells := by
  refine rise_ext (placesGo_rise 63 cells 0).1 (List.Pairwise.filter _ List.pairwise_lt_range) (fun x => ?_)
  rw [places, mem_placesGo, hidM, filtM, List.mem_filter, List.mem_range]
  constructor
  · rintro ⟨_, h⟩
    rw [Nat.sub_zero] at h
    obtain ⟨hx, he⟩ := List.getElem?_eq_some_iff.1 h
    exact ⟨hx, by simp [unsB, List.getD, hx, he]⟩
  · rintro ⟨hx, h⟩
    refine ⟨Nat.zero_le _, ?_⟩
    rw [Nat.sub_zero, List.getElem?_eq_getElem hx]
    simpa [unsB, List.getD, hx] using h

set_option maxRecDepth 100000 in
theorem isUnseen_any (W H : Nat) (a : Option Addr) (cells : List UInt8) (cap : Nat) (k : Nat) (w : World) (hat : At w a (byts cells)) (hk : k < cells.length) (_hl : cells.length ≤ 64) :
    Calls Tryd.prog 67 #[.agg #[.int .i64 W, .int .i64 H, .slice a cells.length cap], .int .i64 k] w fun e w' => e = .returned (.bool (unsB cells k)) ∧ Below w.heap.size w w' := by
  obtain ⟨b, off, rfl, hc⟩ := byts_at hat k hk
  have hbl := World.block_lt_of_cell? w _ hc
  have hc' : ∀ o, (w.alloc o).cell? ⟨b, off + k, none⟩ = some (.int .u8 (cells[k].toNat : Int)) := fun o => by rw [cell_new w o b hbl]; exact hc
  have HU := Lib.hid (show unsB cells k = ((cells[k].toNat : Int) == 63) by rw [show ((63 : Int)) = ((63 : Nat) : Int) from rfl, byte_beq cells[k] 63 (by omega)]; simp [unsB, List.getD, hk])
  go_enter Tryd.func67, Tryd.ntmps67
  go_wp2_with fail
  go_ret
  exact ⟨by rw [HU.out]; rfl, (Below.refl _ _).alloc (Nat.le_refl _) _⟩
theorem enters_isUnseen (args : Array Value) (w' : World) : (callFunc 67 args).run Tryd.prog w' = .ok (.enter 67 args) w' := by
  go_simp

/-- What is owned stays where another block alone is touched. -/
theorem Owns.touchNe {b B e : Nat} {w w' : World} {v : Value} {xs : List Value} (h : Owns w B e v xs) (ht : Touch b w w') (hb : ∀ j, v.ownBlock = some j → j ≠ b) : Owns w' B e v xs := by
  obtain ⟨h1, h2⟩ := h
  refine ⟨h1, ?_⟩
  rcases h2 with h2 | ⟨g, cap, cur, hv, hg, hh, r⟩
  · exact .inl h2
  · have hne : g ≠ b := hb g (by rw [hv]; rfl)
    exact .inr ⟨g, cap, cur, hv, hg, by rw [ht.block g (by have := block_lt hh; omega) (by simpa using hne)]; exact hh, r⟩
theorem blockAwayV {w : World} {g b : Nat} (h : b ≠ g) (j : Nat) (v : Value) : (w.setCell ⟨g, j, none⟩ v).heap[b]? = w.heap[b]? := by
  simp [World.setCell, Array.getElem?_modify, Ne.symm h]
theorem toDrew {B : Nat} {w w' : World} (h : Below B w w') : Below B w w'.drew := ⟨h.os, h.tape, h.output, h.size, h.block⟩
theorem Below.setCell5 {B g : Nat} {w w' : World} (h : Below B w w') (hg : B ≤ g) (v0 v1 v2 v3 v4 : Value) : Below B w (((((w'.setCell ⟨g, 0, none⟩ v0).setCell ⟨g, 1, none⟩ v1).setCell ⟨g, 2, none⟩ v2).setCell ⟨g, 3, none⟩ v3).setCell ⟨g, 4, none⟩ v4) :=
  h.trans ((((((Below.set 0 _).trans (Below.set 1 _)).trans (Below.set 2 _)).trans (Below.set 3 _)).trans (Below.set 4 _)).mono hg)

/-- A closure of the reader: is a cell beside the one at hand? -/
theorem enters_readView1 (args : Array Value) (w' : World) : (callFunc 92 args).run Tryd.prog w' = .ok (.enter 92 args) w' := by
  go_simp
set_option maxRecDepth 100000 in
set_option maxHeartbeats 1600000 in
theorem readView1_any (W H : Nat) (a : Option Addr) (n cap c o g t : Nat) (w : World) (hW : 1 ≤ W) (hc : c ≤ 63) (ho : o ≤ 63)
    (hG : w.heap[g]? = some (.cells #[.int .i64 W, .int .i64 H, .slice a n cap] 50 (0, 0))) (hT : w.heap[t]? = some (.cells #[.int .i64 (c / W : Nat), .int .i64 (c % W : Nat)] 95 (0, 0))) :
    Calls Tryd.prog 92 #[.int .i64 o, .pointer (some ⟨g, 0, none⟩), .pointer (some ⟨t, 0, none⟩)] w fun e w' => e = .returned (.bool (nbW W c o)) ∧ Below w.heap.size w w' := by
  have hf0 := cell_of_block hG 0
  have hf1 := cell_of_block hG 1
  have hf2 := cell_of_block hG 2
  simp at hf0 hf1 hf2
  go_enter Tryd.func92, Tryd.ntmps92
  go_wp2_with fail
  have hq1 : o / W ≤ 64 := Nat.le_trans (Nat.div_le_self _ _) (by omega)
  have hq2 : o % W ≤ 64 := Nat.le_trans (Nat.mod_le _ _) (by omega)
  have hq3 : c / W ≤ 64 := Nat.le_trans (Nat.div_le_self _ _) (by omega)
  have hq4 : c % W ≤ 64 := Nat.le_trans (Nat.mod_le _ _) (by omega)
  have HN : Hid (nbW W c o = areNb (o / W) (o % W) (c / W) (c % W)) := rfl
  generalize hrr : c / W = rr at *
  generalize hcc : c % W = cc at *
  clear hrr hcc
  have ht0 := cell_of_block hT 0
  have ht1 := cell_of_block hT 1
  simp at ht0 ht1
  go_region_held3 (fun w' => w'.cell? ⟨g, 0, none⟩ = some (.int .i64 W) ∧ w'.cell? ⟨g, 1, none⟩ = some (.int .i64 H) ∧ w'.cell? ⟨g, 2, none⟩ = some (.slice a n cap) ∧ w'.cell? ⟨t, 0, none⟩ = some (.int .i64 rr) ∧ w'.cell? ⟨t, 1, none⟩ = some (.int .i64 cc))
    (first | exact ⟨hf0, hf1, hf2, ht0, ht1⟩ | exact ⟨kept1 (w := w.drew) hf0 hb3, kept1 (w := w.drew) hf1 hb3, kept1 (w := w.drew) hf2 hb3, kept1 (w := w.drew) ht0 hb3, kept1 (w := w.drew) ht1 hb3⟩ | exact ⟨kept1 (kept1 (w := w.drew) hf0 hb3) hb4, kept1 (kept1 (w := w.drew) hf1 hb3) hb4, kept1 (kept1 (w := w.drew) hf2 hb3) hb4, kept1 (kept1 (w := w.drew) ht0 hb3) hb4, kept1 (kept1 (w := w.drew) ht1 hb3) hb4⟩)
    (first | (go_at_call 87; refine (spotOf_any W H a n cap o _ hW (by omega)).mono ?_; rintro e w3 ⟨rfl, hb3⟩) | (go_at_call 93; refine (areNeighbours_any (o / W) (o % W) rr cc _ hq1 hq2 (by omega) (by omega)).mono ?_; rintro e w4 ⟨rfl, hb4⟩))
  have hb34 : Below w.heap.size w w4 := (ofDrew hb3).trans (hb4.mono hb3.size)
  go_wp2_with fail
  go_ret
  exact ⟨by rw [HN.out]; rfl, hb34⟩

/-- The hidden neighbours of a cell, as a set. -/
def nearS (cells : List UInt8) (W c : Nat) : Nat := setM (nbW W c) (hidM cells)
def u64s (xs : List Nat) : List Value := xs.map fun (x : Nat) => Value.int .u64 (x : Int)
@[simp] theorem u64s_length (xs : List Nat) : (u64s xs).length = xs.length := by simp [u64s]
theorem u64s_snoc (xs : List Nat) (x : Nat) : u64s xs ++ [.int .u64 (x : Int)] = u64s (xs ++ [x]) := by simp [u64s]
theorem elemSet : Elem Tryd.prog 51 101 (.int .u64 0) 8 := ⟨Tryd.underlying51, info_parts (by kernel_rfl), rfl⟩

theorem view_iff (l : List UInt8) : viewM l = (gridM viewSign l && decide ((hidM (grC viewSign l)).length ≤ 14)) := by
  unfold viewM
  cases h : gridM viewSign l with
  | false => rfl
  | true => rw [grC, if_pos h, hid_places]
theorem nearL_snoc (cells : List UInt8) (W k : Nat) : (List.range (k + 1)).map (nearS cells W) = (List.range k).map (nearS cells W) ++ [nearS cells W k] := by
  rw [List.range_succ, List.map_append]; rfl
/-- What the program reads of a view: none if there is none. -/
def vW (l : List UInt8) : Nat := if viewM l = true then grW viewSign l else 0
def vH (l : List UInt8) : Nat := if viewM l = true then grH viewSign l else 0
def vC (l : List UInt8) : List UInt8 := if viewM l = true then grC viewSign l else []
def nearL (cells : List UInt8) (W : Nat) : List Nat := (List.range cells.length).map (nearS cells W)
def vNear (l : List UInt8) : List Nat := nearL (vC l) (vW l)

theorem noView_ret {l : List UInt8} {w w' : World} (hv : viewM l = false) (h : w'.heap[w.heap.size]? = some (.cells #[.int .i64 0, .int .i64 0, .slice none 0 0, .slice none 0 0, .slice none 0 0] 53 (0, 0))) {a : Act} {t0 t1 : Value} {r : List Value}
    (ha : a = { tmps := (t0 :: t1 :: .pointer (some ⟨w.heap.size, 0, none⟩) :: .bool false :: r).toArray, defers := [] }) (hb : Below w.heap.size w w') :
    bodyPost Tryd.prog Tryd.f47 (fun e w' => ∃ a c ah ch an cn, e = .returned (.tuple #[.agg #[.int .i64 (vW l), .int .i64 (vH l), .slice a (vC l).length c, .slice ah (hidM (vC l)).length ch, .slice an (vNear l).length cn], .bool (viewM l)])
      ∧ Owns w' w.heap.size 5 (.slice a (vC l).length c) (byts (vC l)) ∧ Owns w' w.heap.size 3 (.slice ah (hidM (vC l)).length ch) (nats (hidM (vC l))) ∧ Owns w' w.heap.size 101 (.slice an (vNear l).length cn) (u64s (vNear l)) ∧ Below w.heap.size w w') .ret a
      (((((w'.setCell ⟨w.heap.size, 0, none⟩ (.int .i64 0)).setCell ⟨w.heap.size, 1, none⟩ (.int .i64 0)).setCell ⟨w.heap.size, 2, none⟩ (.slice none 0 0)).setCell ⟨w.heap.size, 3, none⟩ (.slice none 0 0)).setCell ⟨w.heap.size, 4, none⟩ (.slice none 0 0)) := by
  subst ha
  have b5 := block_set (block_set (block_set (block_set (block_set h 0 (.int .i64 0)) 1 (.int .i64 0)) 2 (.slice none 0 0)) 3 (.slice none 0 0)) 4 (.slice none 0 0)
  simp at b5
  have r0 := cell_of_block b5 0
  have r1 := cell_of_block b5 1
  have r2 := cell_of_block b5 2
  have r3 := cell_of_block b5 3
  have r4 := cell_of_block b5 4
  simp at r0 r1 r2 r3 r4
  have hn : ¬ viewM l = true := by rw [hv]; decide
  have e1 : vC l = [] := by rw [vC, if_neg hn]
  have e2 : vW l = 0 := by rw [vW, if_neg hn]
  have e3 : vH l = 0 := by rw [vH, if_neg hn]
  have e4 : vNear l = [] := by rw [vNear, e1]; rfl
  refine bodyPost_ret (v := .tuple #[.agg #[.int .i64 0, .int .i64 0, .slice none 0 0, .slice none 0 0, .slice none 0 0], .bool false]) ?_ rfl ?_
  · simp [results, Tryd.results47, go_sem, r0, r1, r2, r3, r4]
  · rw [e1, e2, e3, e4, hv]
    exact ⟨none, 0, none, 0, none, 0, rfl, Owns.nil _ _ _, Owns.nil _ _ _, Owns.nil _ _ _, Below.setCell5 hb (Nat.le_refl _) _ _ _ _ _⟩

set_option maxRecDepth 100000 in
set_option maxHeartbeats 3200000 in
theorem readView_any (l : List UInt8) (w : World) (hM : HasMax w) (hl : l.length ≤ 1048576) :
    Calls Tryd.prog 47 #[.string ⟨l.toArray⟩] w fun e w' => ∃ a c ah ch an cn, e = .returned (.tuple #[.agg #[.int .i64 (vW l), .int .i64 (vH l), .slice a (vC l).length c, .slice ah (hidM (vC l)).length ch, .slice an (vNear l).length cn], .bool (viewM l)])
      ∧ Owns w' w.heap.size 5 (.slice a (vC l).length c) (byts (vC l)) ∧ Owns w' w.heap.size 3 (.slice ah (hidM (vC l)).length ch) (nats (hidM (vC l))) ∧ Owns w' w.heap.size 101 (.slice an (vNear l).length cn) (u64s (vNear l)) ∧ Below w.heap.size w w' := by
  have hgl := grC_le viewSign l
  have hgw := grW_pos viewSign l
  go_enter Tryd.func47, Tryd.ntmps47
  go_wp2_with fail
  have hb0 : Below w.heap.size w (w.alloc (.cells #[.int .i64 0, .int .i64 0, .slice none 0 0, .slice none 0 0, .slice none 0 0] 53)) := (Below.refl _ _).alloc (Nat.le_refl _) _
  have hR0 : (w.alloc (.cells #[.int .i64 0, .int .i64 0, .slice none 0 0, .slice none 0 0, .slice none 0 0] 53)).heap[w.heap.size]? = some (.cells #[.int .i64 0, .int .i64 0, .slice none 0 0, .slice none 0 0, .slice none 0 0] 53 (0, 0)) := heap_alloc_new w _
  have hs0 : w.heap.size < (w.alloc (.cells #[.int .i64 0, .int .i64 0, .slice none 0 0, .slice none 0 0, .slice none 0 0] 53)).heap.size := by simp
  generalize w.alloc (.cells #[.int .i64 0, .int .i64 0, .slice none 0 0, .slice none 0 0, .slice none 0 0] 53) = w0 at *
  refine (readGrid_any viewSign 90 signs_view l _ (hM.later hb0) hl).mono ?_
  rintro e w1 ⟨a, cap, rfl, hown, hb⟩
  have s1 := hb.size
  have hvi := view_iff l
  generalize hWe : grW viewSign l = W at *
  generalize hHe : grH viewSign l = H at *
  generalize hCe : grC viewSign l = cells at *
  have HWE := Lib.hid hWe
  have HHE := Lib.hid hHe
  have HCE := Lib.hid hCe
  have HVI := Lib.hid hvi
  clear hWe hHe hCe hvi
  go_wp2_with fail
  have hba : Below w1.heap.size w1 (w1.alloc (.cells #[.int .i64 W, .int .i64 H, .slice a cells.length cap] 50)) := (Below.refl _ _).alloc (Nat.le_refl _) _
  have hGa : (w1.alloc (.cells #[.int .i64 W, .int .i64 H, .slice a cells.length cap] 50)).heap[w1.heap.size]? = some (.cells #[.int .i64 W, .int .i64 H, .slice a cells.length cap] 50 (0, 0)) := heap_alloc_new w1 _
  have hsa : w1.heap.size < (w1.alloc (.cells #[.int .i64 W, .int .i64 H, .slice a cells.length cap] 50)).heap.size := by simp
  have howna := hown.later hba
  have hat2 := howna.at
  generalize hw2 : w1.alloc (.cells #[.int .i64 W, .int .i64 H, .slice a cells.length cap] 50) = w2 at *
  have HW2 := Lib.hid hw2
  clear hw2
  have hf0 := cell_of_block hGa 0
  have hf1 := cell_of_block hGa 1
  have hf2 := cell_of_block hGa 2
  simp at hf0 hf1 hf2
  have HH : Hid (filtM (unsB cells) cells.length = hidM cells) := rfl
  have HP := Lib.hid (fun (w : World) (h : At w a (byts cells)) => pick_any W H a cells.length cap (unsB cells) 67 #[.agg #[.int .i64 W, .int .i64 H, .slice a cells.length cap]] #[] w hgl enters_isUnseen (fun w' k hb' hk => isUnseen_any W H a cells cap k w' (h.later rfl hb') hk hgl))
  go_cut [6] (fun s6 wx => ∃ (V : Nat) (ah : Option Addr) (ch : Nat), s6 = .pointer (some ⟨V, 0, none⟩) ∧ Hid (wx.heap[V]? = some (.cells #[.int .i64 W, .int .i64 H, .slice a cells.length cap, .slice ah (hidM cells).length ch, .slice none 0 0] 53 (0, 0))) ∧ w2.heap.size ≤ V ∧ Owns wx w2.heap.size 3 (.slice ah (hidM cells).length ch) (nats (hidM cells)) ∧ Below w2.heap.size w2 wx ∧ Hid (∀ j, (Value.slice ah (hidM cells).length ch).ownBlock = some j → j ≠ V))
  case first =>
    have hA : ∀ w', Below w2.heap.size w2 w' → w'.cell? ⟨w1.heap.size, 0, none⟩ = some (.int .i64 W) ∧ w'.cell? ⟨w1.heap.size, 1, none⟩ = some (.int .i64 H) ∧ w'.cell? ⟨w1.heap.size, 2, none⟩ = some (.slice a cells.length cap) := fun w' h =>
      ⟨by rw [h.cell (p := ⟨w1.heap.size, 0, none⟩) hsa]; exact hf0, by rw [h.cell (p := ⟨w1.heap.size, 1, none⟩) hsa]; exact hf1, by rw [h.cell (p := ⟨w1.heap.size, 2, none⟩) hsa]; exact hf2⟩
    have hdr : Below w2.heap.size w2 w2.drew := toDrew (Below.refl _ w2)
    have hal := fun o => toDrew ((Below.refl _ w2).alloc (Nat.le_refl _) o)
    go_region_held3 (fun w' => w'.cell? ⟨w1.heap.size, 0, none⟩ = some (.int .i64 W) ∧ w'.cell? ⟨w1.heap.size, 1, none⟩ = some (.int .i64 H) ∧ w'.cell? ⟨w1.heap.size, 2, none⟩ = some (.slice a cells.length cap))
      (first | with_reducible exact hA _ hdr | with_reducible exact hA _ hb23 | with_reducible exact hA _ (hal _) | with_reducible exact hA _ (hb23.alloc hb23.size _) | with_reducible exact hA _ (Below.setCell5 hb23 (Nat.le_refl _) _ _ _ _ _))
      ((go_at_call 79; refine (HP.out _ (by first | exact hat2.drew | exact (hat2.later rfl ((Below.refl _ w2).alloc (Nat.le_refl _) _)).drew)).mono ?_; rintro e w3 ⟨ah, ch, rfl, hown3, hb3⟩; rw [HH.out] at hown3 ⊢; have hb23 : Below w2.heap.size w2 w3 := (by first | exact ofDrew hb3 | exact (hal _).trans (hb3.mono (by simp))); try (have hV3 := (hb3.block w2.heap.size (by simp)).trans (heap_alloc_new w2 _); have hv0 := cell_of_block hV3 0; have hv1 := cell_of_block hV3 1; have hv2 := cell_of_block hV3 2; have hv3 := cell_of_block hV3 3; have hv4 := cell_of_block hV3 4; simp at hv0 hv1 hv2 hv3 hv4; have hz0 := frozen_of_block hV3 0; have hz1 := frozen_of_block hV3 1; have hz2 := frozen_of_block hV3 2; have hz3 := frozen_of_block hV3 3; have hz4 := frozen_of_block hV3 4; have HV3 := Lib.hid hV3; clear hV3)))
    · go_wp2_with fail
      go_meet
      refine ⟨w3.heap.size, ah, ch, by with_reducible rfl, ?_, hb23.size, ?_, ?_, ?_⟩
      · exact heap_alloc_new w3 _
      · exact (hown3.later ((Below.refl _ w3).alloc (Nat.le_refl _) _)).mono (Nat.le_refl _)
      · exact hb23.alloc hb23.size _
      · intro j hj; have := (hown3.lt j hj).2; omega
    · go_wp2_with fail
      go_meet
      refine ⟨w2.heap.size, ah, ch, by with_reducible rfl, ?_, Nat.le_refl _, ?_, ?_, ?_⟩
      · have b5 := block_set (block_set (block_set (block_set (block_set HV3.out 0 (.int .i64 W)) 1 (.int .i64 H)) 2 (.slice a cells.length cap)) 3 (.slice ah (hidM cells).length ch)) 4 (.slice none 0 0)
        rw [Hid]
        simpa using b5
      · exact (((((((hown3.mono (show w2.heap.size + 1 ≤ _ by simp)).set _ _ _ (by omega)).set _ _ _ (by omega)).set _ _ _ (by omega)).set _ _ _ (by omega)).set _ _ _ (by omega)).mono (by omega))
      · exact Below.setCell5 hb23 (Nat.le_refl _) _ _ _ _ _
      · intro j hj; have := (hown3.lt j hj).1; simp at this; omega
    · go_wp2_with fail
      go_meet
      refine ⟨w2.heap.size, ah, ch, by with_reducible rfl, ?_, Nat.le_refl _, ?_, ?_, ?_⟩
      · have b5 := block_set (block_set (block_set (block_set (block_set HV3.out 0 (.int .i64 W)) 1 (.int .i64 H)) 2 (.slice a cells.length cap)) 3 (.slice ah (hidM cells).length ch)) 4 (.slice none 0 0)
        rw [Hid]
        simpa using b5
      · exact (((((((hown3.mono (show w2.heap.size + 1 ≤ _ by simp)).set _ _ _ (by omega)).set _ _ _ (by omega)).set _ _ _ (by omega)).set _ _ _ (by omega)).set _ _ _ (by omega)).mono (by omega))
      · exact Below.setCell5 hb23 (Nat.le_refl _) _ _ _ _ _
      · intro j hj; have := (hown3.lt j hj).1; simp at this; omega
  case rest =>
    obtain ⟨V, ah, ch, rfl, hV, hVl, hownh, hbx, hne⟩ := hcut
    have hidle : (hidM cells).length ≤ 64 := Nat.le_trans (filtM_le _ _) hgl
    have hv0 := cell_of_block hV.out 0
    have hv1 := cell_of_block hV.out 1
    have hv2 := cell_of_block hV.out 2
    have hv3 := cell_of_block hV.out 3
    have hv4 := cell_of_block hV.out 4
    simp at hv0 hv1 hv2 hv3 hv4
    have hRx := (hbx.block _ (by omega)).trans ((hba.block _ (by omega)).trans ((hb.block _ hs0).trans hR0))
    have hGx := (hbx.block _ hsa).trans hGa
    have hg0 := cell_of_block hGx 0
    have hg1 := cell_of_block hGx 1
    have hg2 := cell_of_block hGx 2
    simp at hg0 hg1 hg2
    have HGX := Lib.hid hGx
    have HRX := Lib.hid hRx
    clear HP hGx hRx
    by_cases hok : gridM viewSign l = true ∧ (hidM cells).length ≤ 14
    · obtain ⟨h1, h2⟩ := hok
      have HOK := Lib.hid h1
      clear h1
      go_wp2_with fail
      have hown2 : Owns wc w0.heap.size 5 (.slice a cells.length cap) (byts cells) := (howna.later hbx).mono (Nat.le_refl _)
      have hatc := hown2.at
      have hzc := hownh.at
      go_loopw [32] (fun i wr => ∃ k : Nat, k ≤ cells.length ∧ i = .int .i64 k ∧ ∃ an cn, Hid (wr.heap[V]? = some (.cells #[.int .i64 W, .int .i64 H, .slice a cells.length cap, .slice ah (hidM cells).length ch, .slice an k cn] 53 (0, 0))) ∧ Owns wr wc.heap.size 101 (.slice an k cn) (u64s ((List.range k).map (nearS cells W))) ∧ Touch V wc wr) (fun i _ => cells.length - (intOf i).toNat)
      case atStart => exact ⟨0, Nat.zero_le _, rfl, none, 0, hV, Owns.nil _ _ _, Touch.refl _ _⟩
      case round =>
        obtain ⟨k, hk, rfl, an, cn, hVr, hownn, ht⟩ := hrel
        by_cases hlt : k < cells.length
        · have hW1 := hgw (by omega)
          have hGr := (ht.block w1.heap.size (by have := hbx.size; omega) (by simp; omega)).trans HGX.out
          have hg0 := cell_of_block hGr 0
          have hg1 := cell_of_block hGr 1
          have hg2 := cell_of_block hGr 2
          simp at hg0 hg1 hg2
          go_wp2_with fail
          refine (spotOf_any W H a cells.length cap k _ hW1 (by omega)).mono ?_
          rintro e w4 ⟨rfl, hb4⟩
          go_wp2_with fail
          have s4 := hb4.size
          have hb45 : Below wr.heap.size wr (w4.alloc (.cells #[.int .i64 ((k : Int) / (W : Int)), .int .i64 ((k : Int) % (W : Int))] 95)) := hb4.alloc s4 _
          have hT5 : (w4.alloc (.cells #[.int .i64 ((k : Int) / (W : Int)), .int .i64 ((k : Int) % (W : Int))] 95)).heap[w4.heap.size]? = some (.cells #[.int .i64 ((k / W : Nat) : Int), .int .i64 ((k % W : Nat) : Int)] 95 (0, 0)) := heap_alloc_new w4 _
          have hs5 : w4.heap.size < (w4.alloc (.cells #[.int .i64 ((k : Int) / (W : Int)), .int .i64 ((k : Int) % (W : Int))] 95)).heap.size := by simp
          generalize w4.alloc (.cells #[.int .i64 ((k : Int) / (W : Int)), .int .i64 ((k : Int) % (W : Int))] 95) = w5 at *
          have hVlt := block_lt hVr.out
          have hGlt := block_lt hGr
          have hV5 := (hb45.block _ hVlt).trans hVr.out
          have hG5 := (hb45.block _ hGlt).trans hGr
          have hz5 : At w5 ah (nats (hidM cells)) := ((hownh.touchNe ht hne.out).at).later rfl hb45
          have hso := setOf_any W H a cells.length cap (hidM cells) ah ch an k cn (nbW W k) 92 #[] #[.pointer (some ⟨w1.heap.size, 0, none⟩), .pointer (some ⟨w4.heap.size, 0, none⟩)] w5.drew hz5.drew (by omega) enters_readView1
            (fun w' o hb' ho => readView1_any W H a cells.length cap k o w1.heap.size w4.heap.size w' hW1 (by omega) (by have := hidM_lt cells o ho; omega) ((hb'.block _ (by have := hb45.size; show _ < w5.heap.size; omega)).trans hG5) ((hb'.block _ hs5).trans hT5))
          have HSO := Lib.hid hso
          clear hso
          have hv0 := cell_of_block hV5 0
          have hv1 := cell_of_block hV5 1
          have hv2 := cell_of_block hV5 2
          have hv3 := cell_of_block hV5 3
          have hv4 := cell_of_block hV5 4
          simp at hv0 hv1 hv2 hv3 hv4
          have HV5 := Lib.hid hV5
          have HB45 := Lib.hid hb45
          have hV5lt := block_lt hV5
          have hwcs := ht.size
          have hVwc := block_lt hV.out
          have s5 := hb45.size
          clear hV5 hG5 hT5 hGr hg0 hg1 hg2 hb45
          go_region_law (first
            | (refine step_appA rfl _ _ _ (by rfl) wc.heap.size _ _ _ elemSet _ (u64s ((List.range k).map (nearS cells W))) (by rfl) (((hownn.later HB45.out).later (ofDrew hb6)).later ((Below.refl _ w6).alloc (Nat.le_refl _) _)) _ _ _ [.int .u64 (nearS cells W k : Nat)] (by rfl) rfl (Owns.one w6 w6.heap.size _ _ (Nat.le_refl _)).at (by simp [Value.oneCell']) (by simp; omega) (by simp; omega) (by have := hb6.size; simp at *; omega) ?_; intro v7 w7 hown7 hb7; rw [u64s_snoc, ← nearL_snoc] at hown7; obtain ⟨a7, c7, hv7⟩ := hown7.shape; rw [u64s_length, List.length_map, List.length_range] at hv7; subst hv7; have hV6 := (hb6.block V (by exact hV5lt)).trans HV5.out; have hV6a := (Below.heap_alloc w6 (.cells #[.int .u64 (nearS cells W k : Nat)] 101) _ (block_lt hV6)).trans hV6; have hV7 := (hb7.block V hVwc).trans hV6a; have hy4 := cell_of_block hV7 4; simp at hy4; have hq4 := frozen_of_block hV7 4; have HV7 := Lib.hid hV7; clear hV6 hV6a hV7)
            | (go_simp; go_at_call 91; refine HSO.out.mono ?_; rintro e w6 ⟨rfl, hb6⟩; have hV6 := (hb6.block V (by exact hV5lt)).trans HV5.out; have hx4 := cell_of_block hV6 4; simp at hx4; have hx4a : ∀ o, (w6.alloc o).cell? ⟨V, 4, none⟩ = some (.slice an k cn) := fun o => (cell_new w6 o V (block_lt hV6) 4).trans hx4; clear hV6))
          all_goals
           have htx := (((ht.then HB45.out hwcs).then (ofDrew hb6) (by show _ ≤ w5.heap.size; omega)).then ((Below.refl _ w6).alloc (Nat.le_refl _) (.cells #[.int .u64 (nearS cells W k : Nat)] 101)) (by have h6 := hb6.size; have : w5.drew.heap.size = w5.heap.size := rfl; omega)).then hb7 (Nat.le_refl _)
           have hty : Touch V wc (w7.setCell ⟨V, 4, none⟩ (.slice a7 (k + 1) c7)) := htx.trans ⟨rfl, rfl, rfl, by simp, fun j hj hne => blockAwayV (fun h => hne (by rw [h])) 4 _⟩
           have hox := hown7.set V 4 (.slice a7 (k + 1) c7) hVwc
           have hbx7 := block_set HV7.out 4 (.slice a7 (k + 1) c7)
           simp at hbx7
           have HBX := Lib.hid hbx7
           clear hbx7 hx4a hx4 hy4 hq4 hb6 hb7 htx hown7
           go_wp2_with fail
           go_roundw
           case rel => exact ⟨k + 1, by omega, by go_num, a7, c7, HBX.out, hox, hty⟩
           case measure => simp [intOf]; omega
        · obtain rfl : k = cells.length := by omega
          have hRr := (ht.block w.heap.size (by have := hbx.size; omega) (by simp; omega)).trans HRX.out
          have hVb := hVr.out
          have hx0 := cell_of_block hVb 0
          have hx1 := cell_of_block hVb 1
          have hx2 := cell_of_block hVb 2
          have hx3 := cell_of_block hVb 3
          have hx4 := cell_of_block hVb 4
          have hr0 := cell_of_block hRr 0
          have hr1 := cell_of_block hRr 1
          have hr2 := cell_of_block hRr 2
          have hr3 := cell_of_block hRr 3
          have hr4 := cell_of_block hRr 4
          simp at hx0 hx1 hx2 hx3 hx4 hr0 hr1 hr2 hr3 hr4
          have hq0 := frozen_of_block hRr 0
          have hq1 := frozen_of_block hRr 1
          have hq2 := frozen_of_block hRr 2
          have hq3 := frozen_of_block hRr 3
          have hq4 := frozen_of_block hRr 4
          have HRR := Lib.hid hRr
          clear hRr hVb hg0 hg1 hg2
          have HVM : Hid (viewM l = true) := by rw [Hid, HVI.out, HOK.out]; simp; exact h2
          have hownz := hownh.touchNe ht hne.out
          have howns := hown2.touchNe ht (fun j hj => by have := (hown.lt j hj).2; have := hba.size; omega)
          go_wp2_with fail
          have b5 := block_set (block_set (block_set (block_set (block_set HRR.out 0 (.int .i64 W)) 1 (.int .i64 H)) 2 (.slice a cells.length cap)) 3 (.slice ah (hidM cells).length ch)) 4 (.slice an cells.length cn)
          simp at b5
          refine bodyPost_ret (v := .tuple #[.agg #[.int .i64 W, .int .i64 H, .slice a cells.length cap, .slice ah (hidM cells).length ch, .slice an cells.length cn], .bool true]) ?_ rfl ?_
          · have r0 := cell_of_block b5 0
            have r1 := cell_of_block b5 1
            have r2 := cell_of_block b5 2
            have r3 := cell_of_block b5 3
            have r4 := cell_of_block b5 4
            simp at r0 r1 r2 r3 r4
            simp [results, Tryd.results47, go_sem, r0, r1, r2, r3, r4]
          · have e1 : vC l = cells := by rw [vC, if_pos HVM.out, HCE.out]
            have e2 : vW l = W := by rw [vW, if_pos HVM.out, HWE.out]
            have e3 : vH l = H := by rw [vH, if_pos HVM.out, HHE.out]
            have e4 : (vNear l).length = cells.length := by rw [vNear, nearL, e1]; simp
            rw [e1, e2, e3, e4, vNear, e1, e2]
            have s01 : w.heap.size < w0.heap.size := hs0
            have hRw : ∀ {e : Nat} {v : Value} {xs : List Value} (B : Nat), w.heap.size < B → Owns wr B e v xs → Owns (((((wr.setCell ⟨w.heap.size, 0, none⟩ (.int .i64 W)).setCell ⟨w.heap.size, 1, none⟩ (.int .i64 H)).setCell ⟨w.heap.size, 2, none⟩ (.slice a cells.length cap)).setCell ⟨w.heap.size, 3, none⟩ (.slice ah (hidM cells).length ch)).setCell ⟨w.heap.size, 4, none⟩ (.slice an cells.length cn)) w.heap.size e v xs := fun B hB h =>
              (((((h.set _ _ _ hB).set _ _ _ hB).set _ _ _ hB).set _ _ _ hB).set _ _ _ hB).mono (by omega)
            refine ⟨a, cap, ah, ch, an, cn, by rw [HVM.out], hRw _ hs0 howns, hRw _ (by have := hba.size; omega) hownz, hRw _ (by have := hbx.size; omega) hownn, ?_⟩
            exact Below.setCell5 ((((hb0.trans (hb.mono (by omega))).trans (hba.mono (by omega))).trans (hbx.mono (by omega))).trans ((ht.below (C := w2.heap.size) hVl (block_lt hV.out)).mono (by omega))) (Nat.le_refl _) _ _ _ _ _
    · have HVM : Hid (viewM l = false) := by
        rw [Hid, HVI.out]
        cases hg : gridM viewSign l with
        | false => rfl
        | true => simp at hok; have := hok hg; simp; omega
      have hRr := HRX.out
      have hr0 := cell_of_block hRr 0
      have hr1 := cell_of_block hRr 1
      have hr2 := cell_of_block hRr 2
      have hr3 := cell_of_block hRr 3
      have hr4 := cell_of_block hRr 4
      simp at hr0 hr1 hr2 hr3 hr4
      have hq0 := frozen_of_block hRr 0
      have hq1 := frozen_of_block hRr 1
      have hq2 := frozen_of_block hRr 2
      have hq3 := frozen_of_block hRr 3
      have hq4 := frozen_of_block hRr 4
      clear hRr
      cases hg : gridM viewSign l with
      | false =>
        have HG := Lib.hid hg
        clear hg hok
        go_wp2_with fail
        exact noView_ret HVM.out HRX.out rfl (((hb0.trans (hb.mono (by omega))).trans (hba.mono (by omega))).trans (hbx.mono (by omega)))
      | true =>
        have h14 : 14 < (hidM cells).length := by simp at hok; exact hok hg
        have HG := Lib.hid hg
        clear hg hok
        go_wp2_with fail
        exact noView_ret HVM.out HRX.out rfl (((hb0.trans (hb.mono (by omega))).trans (hba.mono (by omega))).trans (hbx.mono (by omega)))
end Go.Proofs.YtfenepllekjgmaaDoor
