/- Views: the program reads a view. -/
import Derived.Test.YtndmkbkmfonefadDoorW2
import Derived.Deep.RegionHeld3
import Derived.Deep.DeepCutAuto
import Derived.Outline
namespace Go.Proofs.YtndmkbkmfonefadDoor
open Go.RowKit

/-- The hidden cells of a view's cells. -/
def unsB (cells : List UInt8) (k : Nat) : Bool := cells.getD k 0 == 63
def hidM (cells : List UInt8) : List Nat := filtM (unsB cells) cells.length
theorem hidM_lt (cells : List UInt8) (x : Nat) (h : x ∈ hidM cells) : x < cells.length := by
  rw [hidM, filtM, List.mem_filter, List.mem_range] at h
  exact h.1
theorem hid_places (cells : List UInt8) : places 63 cells = hidM cells := by
  refine rise_ext (placesGo_rise 63 cells 0).1 (List.Pairwise.filter _ List.pairwise_lt_range) (fun x => ?_)
  rw [places, mem_placesGo, hidM, filtM, List.mem_filter, List.mem_range]
  constructor
  · rintro ⟨_, h⟩
    rw [Nat.sub_zero] at h
    obtain ⟨hx, he⟩ := List.getElem?_eq_some_iff.1 h
    exact ⟨hx, by simp [unsB, List.getD, hx, he]⟩
  · rintro ⟨hx, h⟩
    refine ⟨Nat.zero_le _, ?_⟩
    rw [Nat.sub_zero, List.getElem?_eq_getElem hx]
    simpa [unsB, List.getD, hx] using h

set_option maxRecDepth 100000 in
theorem isUnseen_any (W H : Nat) (a : Option Addr) (cells : List UInt8) (cap : Nat) (k : Nat) (w : World) (hat : At w a (byts cells)) (hk : k < cells.length) (_hl : cells.length ≤ 64) :
    Calls Tryd.prog 66 #[.agg #[.int .i64 W, .int .i64 H, .slice a cells.length cap, .bool false], .int .i64 k] w fun e w' => e = .returned (.bool (unsB cells k)) ∧ Below w.heap.size w w' := by
  obtain ⟨b, off, rfl, hc⟩ := byts_at hat k hk
  have hbl := World.block_lt_of_cell? w _ hc
  have hc' : ∀ o, (w.alloc o).cell? ⟨b, off + k, none⟩ = some (.int .u8 (cells[k].toNat : Int)) := fun o => by rw [cell_new w o b hbl]; exact hc
  have HU := Lib.hid (show unsB cells k = ((cells[k].toNat : Int) == 63) by rw [show ((63 : Int)) = ((63 : Nat) : Int) from rfl, byte_beq cells[k] 63 (by omega)]; simp [unsB, List.getD, hk])
  go_enter Tryd.func66, Tryd.ntmps66
  go_wp2_with fail
  go_ret
  exact ⟨by rw [HU.out]; rfl, (Below.refl _ _).alloc (Nat.le_refl _) _⟩
theorem enters_isUnseen (args : Array Value) (w' : World) : (callFunc 66 args).run Tryd.prog w' = .ok (.enter 66 args) w' := by
  go_simp

/-- What is owned stays where another block alone is touched. -/
theorem Owns.touchNe {b B e : Nat} {w w' : World} {v : Value} {xs : List Value} (h : Owns w B e v xs) (ht : Touch b w w') (hb : ∀ j, v.ownBlock = some j → j ≠ b) : Owns w' B e v xs := by
  obtain ⟨h1, h2⟩ := h
  refine ⟨h1, ?_⟩
  rcases h2 with h2 | ⟨g, cap, cur, hv, hg, hh, r⟩
  · exact .inl h2
  · have hne : g ≠ b := hb g (by rw [hv]; rfl)
    exact .inr ⟨g, cap, cur, hv, hg, by rw [ht.block g (by have := block_lt hh; omega) (by simpa using hne)]; exact hh, r⟩
theorem blockAwayV {w : World} {g b : Nat} (h : b ≠ g) (j : Nat) (v : Value) : (w.setCell ⟨g, j, none⟩ v).heap[b]? = w.heap[b]? := by
  simp [World.setCell, Array.getElem?_modify, Ne.symm h]
theorem toDrew {B : Nat} {w w' : World} (h : Below B w w') : Below B w w'.drew := ⟨h.os, h.tape, h.output, h.size, h.block⟩
theorem Below.setCell6 {B g : Nat} {w w' : World} (h : Below B w w') (hg : B ≤ g) (v0 v1 v2 v3 v4 v5 : Value) : Below B w ((((((w'.setCell ⟨g, 0, none⟩ v0).setCell ⟨g, 1, none⟩ v1).setCell ⟨g, 2, none⟩ v2).setCell ⟨g, 3, none⟩ v3).setCell ⟨g, 4, none⟩ v4).setCell ⟨g, 5, none⟩ v5) :=
  h.trans (((((((Below.set 0 _).trans (Below.set 1 _)).trans (Below.set 2 _)).trans (Below.set 3 _)).trans (Below.set 4 _)).trans (Below.set 5 _)).mono hg)

/-- A closure of viewOfGrid: is a cell beside the one at hand? -/
theorem enters_viewGrid1 (args : Array Value) (w' : World) : (callFunc 98 args).run Tryd.prog w' = .ok (.enter 98 args) w' := by
  go_simp
set_option maxRecDepth 100000 in
set_option maxHeartbeats 1600000 in
theorem viewGrid1_any {J : Bool} (W H : Nat) (a : Option Addr) (n cap c o g t : Nat) (w : World) (hW : 1 ≤ W) (hc : c ≤ 63) (ho : o ≤ 63) (hJ : J = true → (1 ≤ W ∧ W ≤ 1048576) ∧ (1 ≤ H ∧ H ≤ 1048576))
    (hG : w.heap[g]? = some (.cells #[.int .i64 W, .int .i64 H, .slice a n cap, .bool J] 45 (0, 0))) (hT : w.heap[t]? = some (.cells #[.int .i64 (c / W : Nat), .int .i64 (c % W : Nat)] 104 (0, 0))) :
    Calls Tryd.prog 98 #[.int .i64 o, .pointer (some ⟨g, 0, none⟩), .pointer (some ⟨t, 0, none⟩)] w fun e w' => e = .returned (.bool (nbW (geoOf J W H) c o)) ∧ Below w.heap.size w w' := by
  have hf0 := cell_of_block hG 0
  have hf1 := cell_of_block hG 1
  have hf2 := cell_of_block hG 2
  have hf3 := cell_of_block hG 3
  simp at hf0 hf1 hf2 hf3
  go_enter Tryd.func98, Tryd.ntmps98
  go_wp2_with fail
  have hq1 : o / W ≤ 64 := Nat.le_trans (Nat.div_le_self _ _) (by omega)
  have hq2 : o % W ≤ 64 := Nat.le_trans (Nat.mod_le _ _) (by omega)
  have hq3 : c / W ≤ 64 := Nat.le_trans (Nat.div_le_self _ _) (by omega)
  have hq4 : c % W ≤ 64 := Nat.le_trans (Nat.mod_le _ _) (by omega)
  have HN := Lib.hid (nbW_geo J W H c o)
  generalize hrr : c / W = rr at *
  generalize hcc : c % W = cc at *
  clear hrr hcc
  have ht0 := cell_of_block hT 0
  have ht1 := cell_of_block hT 1
  simp at ht0 ht1
  go_region_held3 (fun w' => w'.cell? ⟨g, 0, none⟩ = some (.int .i64 W) ∧ w'.cell? ⟨g, 1, none⟩ = some (.int .i64 H) ∧ w'.cell? ⟨g, 2, none⟩ = some (.slice a n cap) ∧ w'.cell? ⟨g, 3, none⟩ = some (.bool J) ∧ w'.cell? ⟨t, 0, none⟩ = some (.int .i64 rr) ∧ w'.cell? ⟨t, 1, none⟩ = some (.int .i64 cc))
    (first | exact ⟨hf0, hf1, hf2, hf3, ht0, ht1⟩ | exact ⟨kept1 (w := w.drew) hf0 hb3, kept1 (w := w.drew) hf1 hb3, kept1 (w := w.drew) hf2 hb3, kept1 (w := w.drew) hf3 hb3, kept1 (w := w.drew) ht0 hb3, kept1 (w := w.drew) ht1 hb3⟩ | exact ⟨kept1 (kept1 (w := w.drew) hf0 hb3) hb4, kept1 (kept1 (w := w.drew) hf1 hb3) hb4, kept1 (kept1 (w := w.drew) hf2 hb3) hb4, kept1 (kept1 (w := w.drew) hf3 hb3) hb4, kept1 (kept1 (w := w.drew) ht0 hb3) hb4, kept1 (kept1 (w := w.drew) ht1 hb3) hb4⟩)
    (first | (go_at_call 97; refine (spotOf_any W H a n cap o _ hW (by omega)).mono ?_; rintro e w3 ⟨rfl, hb3⟩) | (go_at_call 99; refine (areNeighboursJ_any W H a n cap (o / W) (o % W) rr cc _ hq1 hq2 (by omega) (by omega) hJ).mono ?_; rintro e w4 ⟨rfl, hb4⟩))
  have hb34 : Below w.heap.size w w4 := (ofDrew hb3).trans (hb4.mono hb3.size)
  go_wp2_with fail
  go_ret
  exact ⟨by rw [HN.out]; rfl, hb34⟩

/-- The hidden neighbours of a cell, as a set. -/
def nearH (hs : List Nat) (V : Geo) (c : Nat) : Nat := setM (nbW V c) hs
def nearS (cells : List UInt8) (V : Geo) (c : Nat) : Nat := nearH (hidM cells) V c
def u64s (xs : List Nat) : List Value := xs.map fun (x : Nat) => Value.int .u64 (x : Int)
@[simp] theorem u64s_length (xs : List Nat) : (u64s xs).length = xs.length := by simp [u64s]
theorem u64s_snoc (xs : List Nat) (x : Nat) : u64s xs ++ [.int .u64 (x : Int)] = u64s (xs ++ [x]) := by simp [u64s]
theorem elemSet : Elem Tryd.prog 66 94 (.int .u64 0) 8 := ⟨Tryd.underlying66, info_parts (by kernel_rfl), rfl⟩

theorem view_iff (l : List UInt8) : viewM l = (gridM viewSign l && decide ((hidM (grC viewSign l)).length ≤ 14)) := by
  unfold viewM
  cases h : gridM viewSign l with
  | false => rfl
  | true => rw [grC, if_pos h, hid_places]
theorem nearH_snoc (hs : List Nat) (V : Geo) (k : Nat) : (List.range (k + 1)).map (nearH hs V) = (List.range k).map (nearH hs V) ++ [nearH hs V k] := by
  rw [List.range_succ, List.map_append]; rfl
/-- What the program reads of a view: none if there is none. -/
def vW (l : List UInt8) : Nat := if viewM l = true then grW viewSign l else 0
def vH (l : List UInt8) : Nat := if viewM l = true then grH viewSign l else 0
def vC (l : List UInt8) : List UInt8 := if viewM l = true then grC viewSign l else []
def nearL (cells : List UInt8) (V : Geo) : List Nat := (List.range cells.length).map (nearS cells V)
def vNear (l : List UInt8) : List Nat := nearL (vC l) (vW l)


/-- What lies ahead of a block stays where that block alone is touched. -/
theorem At.touchFar {V : Nat} {w w' : World} {a : Option Addr} {xs : List Value} (h : At w a xs) (ht : Touch V w w') (hb : 0 < xs.length → ∃ b off, a = some ⟨b, off, none⟩ ∧ b < V) (hV : V < w.heap.size) : At w' a xs := by
  intro j hj
  obtain ⟨b, off, rfl, hc⟩ := h j hj
  obtain ⟨b', off', he, hlt⟩ := hb (by omega)
  simp only [Option.some.injEq, Addr.mk.injEq, and_true] at he
  obtain ⟨rfl, rfl⟩ := he
  refine ⟨b, off, rfl, ?_⟩
  rw [← hc]
  have := ht.block b (by omega) (by simp; omega)
  simp [World.cell?, this]

set_option maxRecDepth 100000 in
set_option maxHeartbeats 1600000 in
theorem viewOfGrid_any {J : Bool} (W H : Nat) (a : Option Addr) (n cap : Nat) (hs : List Nat) (ah : Option Addr) (ch : Nat) (w : World) (hz : At w ah (nats hs)) (hl : hs.length ≤ 30) (h64 : n ≤ 64) (ho : ∀ o ∈ hs, o ≤ 63) (hW : 0 < n → 1 ≤ W)
    (hJ : J = true → (1 ≤ W ∧ W ≤ 1048576) ∧ (1 ≤ H ∧ H ≤ 1048576)) :
    Calls Tryd.prog 84 #[.agg #[.int .i64 W, .int .i64 H, .slice a n cap, .bool J], .slice ah hs.length ch] w fun e w' => ∃ an cn, e = .returned (.agg #[.int .i64 W, .int .i64 H, .slice a n cap, .bool J, .slice ah hs.length ch, .slice an n cn]) ∧
      Owns w' w.heap.size 94 (.slice an n cn) (u64s ((List.range n).map (nearH hs (geoOf J W H)))) ∧ Below w.heap.size w w' := by
  obtain ⟨hb0, hG0, hR0, hV0, hs0⟩ := boxed3 w (.cells #[.int .i64 W, .int .i64 H, .slice a n cap, .bool J] 45) (.cells #[.int .i64 0, .int .i64 0, .slice none 0 0, .bool false, .slice none 0 0, .slice none 0 0] 68) (.cells #[.int .i64 W, .int .i64 H, .slice a n cap, .bool J, .slice ah hs.length ch, .slice none 0 0] 68)
  go_enter Tryd.func84, Tryd.ntmps84
  go_wp2_with fail
  generalize ((w.alloc (.cells #[.int .i64 W, .int .i64 H, .slice a n cap, .bool J] 45)).alloc (.cells #[.int .i64 0, .int .i64 0, .slice none 0 0, .bool false, .slice none 0 0, .slice none 0 0] 68)).alloc (.cells #[.int .i64 W, .int .i64 H, .slice a n cap, .bool J, .slice ah hs.length ch, .slice none 0 0] 68) = wc at *
  have hz0 := hz.later rfl hb0
  have HFR := Lib.hid (fun (h : 0 < hs.length) => hz.lt (by rw [nats_length]; exact h))
  have HS0 := Lib.hid hs0
  have HG0 := Lib.hid hG0
  have HR0 := Lib.hid hR0
  have HB0 := Lib.hid hb0
  generalize hVV : w.heap.size + 1 + 1 = V at *
  have HVV := Lib.hid hVV
  have hf0 := cell_of_block hG0 0
  have hf1 := cell_of_block hG0 1
  have hf2 := cell_of_block hG0 2
  have hf3 := cell_of_block hG0 3
  simp at hf0 hf1 hf2 hf3
  clear hs0 hG0 hR0 hb0 hVV hz
  go_loopw [14] (fun i wr => ∃ k : Nat, k ≤ n ∧ i = .int .i64 k ∧ ∃ an cn, Hid (wr.heap[V]? = some (.cells #[.int .i64 W, .int .i64 H, .slice a n cap, .bool J, .slice ah hs.length ch, .slice an k cn] 68 (0, 0))) ∧ Owns wr wc.heap.size 94 (.slice an k cn) (u64s ((List.range k).map (nearH hs (geoOf J W H)))) ∧ Touch V wc wr ∧ At wr ah (nats hs)) (fun i _ => n - (intOf i).toNat)
  case atStart => exact ⟨0, Nat.zero_le _, rfl, none, 0, hV0, Owns.nil _ _ _, Touch.refl _ _, hz0⟩
  case round =>
    clear hV0
    obtain ⟨k, hk, rfl, an, cn, hVr, hownn, ht, hzr⟩ := hrel
    have hs7 := HS0.out
    have hv7 := HVV.out
    have hwcs := ht.size
    have hGr := (ht.block w.heap.size (by omega) (by simp; omega)).trans HG0.out
    have hRr := (ht.block (w.heap.size + 1) (by omega) (by simp; omega)).trans HR0.out
    have hg0 := cell_of_block hGr 0
    have hg1 := cell_of_block hGr 1
    have hg2 := cell_of_block hGr 2
    have hg3 := cell_of_block hGr 3
    simp at hg0 hg1 hg2 hg3
    clear hs7 hv7
    by_cases hlt : k < n
    · have hW1 := hW (by omega)
      go_wp2_with fail
      refine (spotOf_any W H a n cap k _ hW1 (by omega)).mono ?_
      rintro e w4 ⟨rfl, hb4⟩
      go_wp2_with fail
      have s4 := hb4.size
      have hb45 : Below wr.heap.size wr (w4.alloc (.cells #[.int .i64 ((k : Int) / (W : Int)), .int .i64 ((k : Int) % (W : Int))] 104)) := hb4.alloc s4 _
      have hT5 : (w4.alloc (.cells #[.int .i64 ((k : Int) / (W : Int)), .int .i64 ((k : Int) % (W : Int))] 104)).heap[w4.heap.size]? = some (.cells #[.int .i64 ((k / W : Nat) : Int), .int .i64 ((k % W : Nat) : Int)] 104 (0, 0)) := heap_alloc_new w4 _
      have hs5 : w4.heap.size < (w4.alloc (.cells #[.int .i64 ((k : Int) / (W : Int)), .int .i64 ((k : Int) % (W : Int))] 104)).heap.size := by simp
      generalize w4.alloc (.cells #[.int .i64 ((k : Int) / (W : Int)), .int .i64 ((k : Int) % (W : Int))] 104) = w5 at *
      have hVlt := block_lt hVr.out
      have hGlt := block_lt hGr
      have hV5 := (hb45.block _ hVlt).trans hVr.out
      have hG5 := (hb45.block _ hGlt).trans hGr
      have hz5 : At w5 ah (nats hs) := hzr.later rfl hb45
      have hso := setOf_any (J := J) W H a n cap hs ah ch an k cn (nbW (geoOf J W H) k) 98 #[] #[.pointer (some ⟨w.heap.size, 0, none⟩), .pointer (some ⟨w4.heap.size, 0, none⟩)] w5.drew hz5.drew hl enters_viewGrid1
        (fun w' o hb' hom => viewGrid1_any W H a n cap k o w.heap.size w4.heap.size w' hW1 (by omega) (ho o hom) hJ ((hb'.block _ (by have := hb45.size; show _ < w5.heap.size; omega)).trans hG5) ((hb'.block _ hs5).trans hT5))
      rw [show setM (nbW (geoOf J W H) k) hs = nearH hs (geoOf J W H) k from rfl] at hso
      have HSO := Lib.hid hso
      clear hso
      have hv0 := cell_of_block hV5 0
      have hv1 := cell_of_block hV5 1
      have hv2 := cell_of_block hV5 2
      have hv3 := cell_of_block hV5 3
      have hv4 := cell_of_block hV5 4
      have hv5 := cell_of_block hV5 5
      simp at hv0 hv1 hv2 hv3 hv4 hv5
      have HV5 := Lib.hid hV5
      have HB45 := Lib.hid hb45
      have hV5lt := block_lt hV5
      have hVwc : V < wc.heap.size := by have := HS0.out; have := HVV.out; omega
      have s5 := hb45.size
      have HZ5 := Lib.hid hz5
      clear hV5 hG5 hT5 hGr hRr hg0 hg1 hg2 hg3 hb45 hz5 hzr
      go_region_law (first
        | (refine step_appA rfl _ _ _ (by rfl) wc.heap.size _ _ _ elemSet _ (u64s ((List.range k).map (nearH hs (geoOf J W H)))) (by rfl) (((hownn.later HB45.out).later (ofDrew hb6)).later ((Below.refl _ w6).alloc (Nat.le_refl _) _)) _ _ _ [.int .u64 (nearH hs (geoOf J W H) k : Nat)] (by rfl) rfl (Owns.one w6 w6.heap.size _ _ (Nat.le_refl _)).at (by simp [Value.oneCell']) (by simp; omega) (by simp; omega) (by have := hb6.size; simp at *; omega) ?_; intro v7 w7 hown7 hb7; rw [u64s_snoc, ← nearH_snoc] at hown7; obtain ⟨a7, c7, hv7⟩ := hown7.shape; rw [u64s_length, List.length_map, List.length_range] at hv7; subst hv7; have hV6 := (hb6.block V (by exact hV5lt)).trans HV5.out; have hV6a := (Below.heap_alloc w6 (.cells #[.int .u64 (nearH hs (geoOf J W H) k : Nat)] 94) _ (block_lt hV6)).trans hV6; have hV7 := (hb7.block V hVwc).trans hV6a; have hy5 := cell_of_block hV7 5; simp at hy5; have hq5 := frozen_of_block hV7 5; have HV7 := Lib.hid hV7; clear hV6 hV6a hV7)
        | (go_simp; go_at_call 86; refine HSO.out.mono ?_; rintro e w6 ⟨rfl, hb6⟩; have hV6 := (hb6.block V (by exact hV5lt)).trans HV5.out; have hx5 := cell_of_block hV6 5; simp at hx5; have hx5a : ∀ o, (w6.alloc o).cell? ⟨V, 5, none⟩ = some (.slice an k cn) := fun o => (cell_new w6 o V (block_lt hV6) 5).trans hx5; clear hV6))
      all_goals
        have htx := (((ht.then HB45.out hwcs).then (ofDrew hb6) (by show _ ≤ w5.heap.size; omega)).then ((Below.refl _ w6).alloc (Nat.le_refl _) (.cells #[.int .u64 (nearH hs (geoOf J W H) k : Nat)] 94)) (by have h6 := hb6.size; have : w5.drew.heap.size = w5.heap.size := rfl; omega)).then hb7 (Nat.le_refl _)
        have hty : Touch V wc (w7.setCell ⟨V, 5, none⟩ (.slice a7 (k + 1) c7)) := htx.trans ⟨rfl, rfl, rfl, by simp, fun j hj hne => blockAwayV (fun h => hne (by rw [h])) 5 _⟩
        have hox := hown7.set V 5 (.slice a7 (k + 1) c7) hVwc
        have hbx7 := block_set HV7.out 5 (.slice a7 (k + 1) c7)
        simp at hbx7
        have HBX := Lib.hid hbx7
        have HA0 := Lib.hid (hz0.touchFar hty (fun h => by obtain ⟨b, off, e, hb⟩ := HFR.out (by rw [nats_length] at h; exact h); exact ⟨b, off, e, by have := HVV.out; omega⟩) (by have := HS0.out; have := HVV.out; omega))
        clear hbx7 hx5a hx5 hy5 hq5 hb6 hb7 htx hown7
        go_wp2_with fail
        go_roundw
        case rel => exact ⟨k + 1, by omega, by go_num, a7, c7, HBX.out, hox, hty, HA0.out⟩
        case measure => simp [intOf]; omega
    · obtain rfl : k = n := by omega
      have hVb := hVr.out
      have hx0 := cell_of_block hVb 0
      have hx1 := cell_of_block hVb 1
      have hx2 := cell_of_block hVb 2
      have hx3 := cell_of_block hVb 3
      have hx4 := cell_of_block hVb 4
      have hx5 := cell_of_block hVb 5
      have hr0 := cell_of_block hRr 0
      have hr1 := cell_of_block hRr 1
      have hr2 := cell_of_block hRr 2
      have hr3 := cell_of_block hRr 3
      have hr4 := cell_of_block hRr 4
      have hr5 := cell_of_block hRr 5
      simp at hx0 hx1 hx2 hx3 hx4 hx5 hr0 hr1 hr2 hr3 hr4 hr5
      have hq0 := frozen_of_block hRr 0
      have hq1 := frozen_of_block hRr 1
      have hq2 := frozen_of_block hRr 2
      have hq3 := frozen_of_block hRr 3
      have hq4 := frozen_of_block hRr 4
      have hq5 := frozen_of_block hRr 5
      have HRR := Lib.hid hRr
      clear hRr hVb hg0 hg1 hg2 hg3 hGr
      go_wp2_with fail
      have b6 := block_set (block_set (block_set (block_set (block_set (block_set HRR.out 0 (.int .i64 W)) 1 (.int .i64 H)) 2 (.slice a k cap)) 3 (.bool J)) 4 (.slice ah hs.length ch)) 5 (.slice an k cn)
      simp at b6
      have s7 := HS0.out
      have v7 := HVV.out
      refine bodyPost_ret (v := .agg #[.int .i64 W, .int .i64 H, .slice a k cap, .bool J, .slice ah hs.length ch, .slice an k cn]) ?_ rfl ?_
      · have r0 := cell_of_block b6 0
        have r1 := cell_of_block b6 1
        have r2 := cell_of_block b6 2
        have r3 := cell_of_block b6 3
        have r4 := cell_of_block b6 4
        have r5 := cell_of_block b6 5
        simp at r0 r1 r2 r3 r4 r5
        simp [results, Tryd.results84, go_sem, r0, r1, r2, r3, r4, r5]
      · refine ⟨an, cn, rfl, ?_, ?_⟩
        · exact ((((((hownn.set _ _ _ (by omega)).set _ _ _ (by omega)).set _ _ _ (by omega)).set _ _ _ (by omega)).set _ _ _ (by omega)).set _ _ _ (by omega)).mono (by omega)
        · exact (HB0.out.trans (ht.below (by omega) (by omega))).trans (((((((Below.set 0 _).trans (Below.set 1 _)).trans (Below.set 2 _)).trans (Below.set 3 _)).trans (Below.set 4 _)).trans (Below.set 5 _)).mono (by omega))

theorem noView_ret {l : List UInt8} {w w' : World} (hv : viewM l = false) (h : w'.heap[w.heap.size]? = some (.cells #[.int .i64 0, .int .i64 0, .slice none 0 0, .bool false, .slice none 0 0, .slice none 0 0] 68 (0, 0))) {a : Act} {t0 t1 : Value} {r : List Value}
    (ha : a = { tmps := (t0 :: t1 :: .pointer (some ⟨w.heap.size, 0, none⟩) :: .bool false :: r).toArray, defers := [] }) (hb : Below w.heap.size w w') :
    bodyPost Tryd.prog Tryd.f54 (fun e w' => ∃ a c ah ch an cn, e = .returned (.tuple #[.agg #[.int .i64 (vW l), .int .i64 (vH l), .slice a (vC l).length c, .bool false, .slice ah (hidM (vC l)).length ch, .slice an (vNear l).length cn], .bool (viewM l)])
      ∧ Owns w' w.heap.size 5 (.slice a (vC l).length c) (byts (vC l)) ∧ Owns w' w.heap.size 3 (.slice ah (hidM (vC l)).length ch) (nats (hidM (vC l))) ∧ Owns w' w.heap.size 94 (.slice an (vNear l).length cn) (u64s (vNear l)) ∧ Below w.heap.size w w') .ret a
      ((((((w'.setCell ⟨w.heap.size, 0, none⟩ (.int .i64 0)).setCell ⟨w.heap.size, 1, none⟩ (.int .i64 0)).setCell ⟨w.heap.size, 2, none⟩ (.slice none 0 0)).setCell ⟨w.heap.size, 3, none⟩ (.bool false)).setCell ⟨w.heap.size, 4, none⟩ (.slice none 0 0)).setCell ⟨w.heap.size, 5, none⟩ (.slice none 0 0)) := by
  subst ha
  have b5 := block_set (block_set (block_set (block_set (block_set (block_set h 0 (.int .i64 0)) 1 (.int .i64 0)) 2 (.slice none 0 0)) 3 (.bool false)) 4 (.slice none 0 0)) 5 (.slice none 0 0)
  simp at b5
  have r0 := cell_of_block b5 0
  have r1 := cell_of_block b5 1
  have r2 := cell_of_block b5 2
  have r3 := cell_of_block b5 3
  have r4 := cell_of_block b5 4
  have r5 := cell_of_block b5 5
  simp at r0 r1 r2 r3 r4 r5
  have hn : ¬ viewM l = true := by rw [hv]; decide
  have e1 : vC l = [] := by rw [vC, if_neg hn]
  have e2 : vW l = 0 := by rw [vW, if_neg hn]
  have e3 : vH l = 0 := by rw [vH, if_neg hn]
  have e4 : vNear l = [] := by rw [vNear, e1]; rfl
  refine bodyPost_ret (v := .tuple #[.agg #[.int .i64 0, .int .i64 0, .slice none 0 0, .bool false, .slice none 0 0, .slice none 0 0], .bool false]) ?_ rfl ?_
  · simp [results, Tryd.results54, go_sem, r0, r1, r2, r3, r4, r5]
  · rw [e1, e2, e3, e4, hv]
    exact ⟨none, 0, none, 0, none, 0, rfl, Owns.nil _ _ _, Owns.nil _ _ _, Owns.nil _ _ _, Below.setCell6 hb (Nat.le_refl _) _ _ _ _ _ _⟩

set_option maxRecDepth 100000 in
set_option maxHeartbeats 3200000 in
theorem readView_any (l : List UInt8) (w : World) (hM : HasMax w) (hl : l.length ≤ 1048576) :
    Calls Tryd.prog 54 #[.string ⟨l.toArray⟩] w fun e w' => ∃ a c ah ch an cn, e = .returned (.tuple #[.agg #[.int .i64 (vW l), .int .i64 (vH l), .slice a (vC l).length c, .bool false, .slice ah (hidM (vC l)).length ch, .slice an (vNear l).length cn], .bool (viewM l)])
      ∧ Owns w' w.heap.size 5 (.slice a (vC l).length c) (byts (vC l)) ∧ Owns w' w.heap.size 3 (.slice ah (hidM (vC l)).length ch) (nats (hidM (vC l))) ∧ Owns w' w.heap.size 94 (.slice an (vNear l).length cn) (u64s (vNear l)) ∧ Below w.heap.size w w' := by
  have hgl := grC_le viewSign l
  have hgw := grW_pos viewSign l
  go_enter Tryd.func54, Tryd.ntmps54
  go_wp2_with fail
  have hb0 : Below w.heap.size w (w.alloc (.cells #[.int .i64 0, .int .i64 0, .slice none 0 0, .bool false, .slice none 0 0, .slice none 0 0] 68)) := (Below.refl _ _).alloc (Nat.le_refl _) _
  have hR0 : (w.alloc (.cells #[.int .i64 0, .int .i64 0, .slice none 0 0, .bool false, .slice none 0 0, .slice none 0 0] 68)).heap[w.heap.size]? = some (.cells #[.int .i64 0, .int .i64 0, .slice none 0 0, .bool false, .slice none 0 0, .slice none 0 0] 68 (0, 0)) := heap_alloc_new w _
  have hs0 : w.heap.size < (w.alloc (.cells #[.int .i64 0, .int .i64 0, .slice none 0 0, .bool false, .slice none 0 0, .slice none 0 0] 68)).heap.size := by simp
  generalize w.alloc (.cells #[.int .i64 0, .int .i64 0, .slice none 0 0, .bool false, .slice none 0 0, .slice none 0 0] 68) = w0 at *
  refine (readGrid_any viewSign 83 signs_view l _ (hM.later hb0) hl).mono ?_
  rintro e w1 ⟨a, cap, rfl, hown, hb⟩
  have s1 := hb.size
  have hvi := view_iff l
  generalize hWe : grW viewSign l = W at *
  generalize hHe : grH viewSign l = H at *
  generalize hCe : grC viewSign l = cells at *
  have HWE := Lib.hid hWe
  have HHE := Lib.hid hHe
  have HCE := Lib.hid hCe
  have HVI := Lib.hid hvi
  clear hWe hHe hCe hvi
  go_wp2_with fail
  have hba : Below w1.heap.size w1 (w1.alloc (.cells #[.int .i64 W, .int .i64 H, .slice a cells.length cap, .bool false] 45)) := (Below.refl _ _).alloc (Nat.le_refl _) _
  have hGa : (w1.alloc (.cells #[.int .i64 W, .int .i64 H, .slice a cells.length cap, .bool false] 45)).heap[w1.heap.size]? = some (.cells #[.int .i64 W, .int .i64 H, .slice a cells.length cap, .bool false] 45 (0, 0)) := heap_alloc_new w1 _
  have hsa : w1.heap.size < (w1.alloc (.cells #[.int .i64 W, .int .i64 H, .slice a cells.length cap, .bool false] 45)).heap.size := by simp
  have howna := hown.later hba
  have hat2 := howna.at
  generalize hw2 : w1.alloc (.cells #[.int .i64 W, .int .i64 H, .slice a cells.length cap, .bool false] 45) = w2 at *
  have HW2 := Lib.hid hw2
  clear hw2
  have hf0 := cell_of_block hGa 0
  have hf1 := cell_of_block hGa 1
  have hf2 := cell_of_block hGa 2
  have hf3 := cell_of_block hGa 3
  simp at hf0 hf1 hf2 hf3
  have HH : Hid (filtM (unsB cells) cells.length = hidM cells) := rfl
  have HP := Lib.hid (fun (w : World) (h : At w a (byts cells)) => pick_any (J := false) W H a cells.length cap (unsB cells) 66 #[.agg #[.int .i64 W, .int .i64 H, .slice a cells.length cap, .bool false]] #[] w hgl enters_isUnseen (fun w' k hb' hk => isUnseen_any W H a cells cap k w' (h.later rfl hb') hk hgl))
  refine (HP.out _ hat2).mono ?_
  rintro e w3 ⟨ah, ch, rfl, hown3, hb3⟩
  rw [HH.out] at hown3 ⊢
  have hidle : (hidM cells).length ≤ 64 := Nat.le_trans (filtM_le _ _) hgl
  have s2 := hba.size
  have s3 := hb3.size
  have hR3 := (hb3.block _ (by omega)).trans ((hba.block _ (by omega)).trans ((hb.block _ hs0).trans hR0))
  have hG3 := (hb3.block _ hsa).trans hGa
  have hb03 := ((hb0.trans (hb.mono (by omega))).trans (hba.mono (by omega))).trans (hb3.mono (by omega))
  have hg0 := cell_of_block hG3 0
  have hg1 := cell_of_block hG3 1
  have hg2 := cell_of_block hG3 2
  have hg3 := cell_of_block hG3 3
  simp at hg0 hg1 hg2 hg3
  clear hG3 hf0 hf1 hf2 hf3
  by_cases hok : gridM viewSign l = true ∧ (hidM cells).length ≤ 14
  · obtain ⟨h1, h2⟩ := hok
    have HVM : Hid (viewM l = true) := by rw [Hid, HVI.out, h1]; simp; exact h2
    have HOK := Lib.hid h1
    have hd : decide (14 < (hidM cells).length) = false := by simp; omega
    have HVG := Lib.hid (viewOfGrid_any (J := false) W H a cells.length cap (hidM cells) ah ch w3 hown3.at (by omega) hgl (fun o h => by have := hidM_lt cells o h; omega) hgw nofun)
    have HR3 := Lib.hid hR3
    have HB3 := Lib.hid hb03
    have hownA := howna.later hb3
    have hownH := hown3
    clear h1 hR3 hb03 hown3 hown howna
    go_wp2_with fail
    refine HVG.out.mono ?_
    rintro e w4 ⟨an, cn, rfl, hown4, hb4⟩
    have hR4 := (hb4.block _ (block_lt HR3.out)).trans HR3.out
    have s4 := hb4.size
    have hr0 := cell_of_block hR4 0
    have hr1 := cell_of_block hR4 1
    have hr2 := cell_of_block hR4 2
    have hr3 := cell_of_block hR4 3
    have hr4 := cell_of_block hR4 4
    have hr5 := cell_of_block hR4 5
    simp at hr0 hr1 hr2 hr3 hr4 hr5
    have hq0 := frozen_of_block hR4 0
    have hq1 := frozen_of_block hR4 1
    have hq2 := frozen_of_block hR4 2
    have hq3 := frozen_of_block hR4 3
    have hq4 := frozen_of_block hR4 4
    have hq5 := frozen_of_block hR4 5
    have HRR := Lib.hid hR4
    have HB4 := Lib.hid (HB3.out.trans (hb4.mono HB3.out.size))
    have HO1 := Lib.hid (hownA.later hb4)
    have HO2 := Lib.hid (hownH.later hb4)
    have HO3 := Lib.hid hown4
    clear hR4 hownA hownH hown4 hb4
    go_wp2_with fail
    have b6 := block_set (block_set (block_set (block_set (block_set (block_set HRR.out 0 (.int .i64 W)) 1 (.int .i64 H)) 2 (.slice a cells.length cap)) 3 (.bool false)) 4 (.slice ah (hidM cells).length ch)) 5 (.slice an cells.length cn)
    simp at b6
    refine bodyPost_ret (v := .tuple #[.agg #[.int .i64 W, .int .i64 H, .slice a cells.length cap, .bool false, .slice ah (hidM cells).length ch, .slice an cells.length cn], .bool true]) ?_ rfl ?_
    · have r0 := cell_of_block b6 0
      have r1 := cell_of_block b6 1
      have r2 := cell_of_block b6 2
      have r3 := cell_of_block b6 3
      have r4 := cell_of_block b6 4
      have r5 := cell_of_block b6 5
      simp at r0 r1 r2 r3 r4 r5
      simp [results, Tryd.results54, go_sem, r0, r1, r2, r3, r4, r5]
    · have e1 : vC l = cells := by rw [vC, if_pos HVM.out, HCE.out]
      have e2 : vW l = W := by rw [vW, if_pos HVM.out, HWE.out]
      have e3 : vH l = H := by rw [vH, if_pos HVM.out, HHE.out]
      have e4 : (vNear l).length = cells.length := by rw [vNear, nearL, e1]; simp
      rw [e1, e2, e3, e4, vNear, e1, e2]
      have hRw : ∀ {e : Nat} {v : Value} {xs : List Value} (B : Nat), w.heap.size < B → Owns w4 B e v xs → Owns ((((((w4.setCell ⟨w.heap.size, 0, none⟩ (.int .i64 W)).setCell ⟨w.heap.size, 1, none⟩ (.int .i64 H)).setCell ⟨w.heap.size, 2, none⟩ (.slice a cells.length cap)).setCell ⟨w.heap.size, 3, none⟩ (.bool false)).setCell ⟨w.heap.size, 4, none⟩ (.slice ah (hidM cells).length ch)).setCell ⟨w.heap.size, 5, none⟩ (.slice an cells.length cn)) w.heap.size e v xs := fun B hB h =>
        ((((((h.set _ _ _ hB).set _ _ _ hB).set _ _ _ hB).set _ _ _ hB).set _ _ _ hB).set _ _ _ hB).mono (by omega)
      refine ⟨a, cap, ah, ch, an, cn, by rw [HVM.out], hRw _ hs0 HO1.out, hRw _ (by omega) HO2.out, hRw _ (by omega) HO3.out, ?_⟩
      exact Below.setCell6 HB4.out (Nat.le_refl _) _ _ _ _ _ _
  · have HVM : Hid (viewM l = false) := by
      rw [Hid, HVI.out]
      cases hg : gridM viewSign l with
      | false => rfl
      | true => simp at hok; have := hok hg; simp; omega
    have hr0 := cell_of_block hR3 0
    have hr1 := cell_of_block hR3 1
    have hr2 := cell_of_block hR3 2
    have hr3 := cell_of_block hR3 3
    have hr4 := cell_of_block hR3 4
    have hr5 := cell_of_block hR3 5
    simp at hr0 hr1 hr2 hr3 hr4 hr5
    have hq0 := frozen_of_block hR3 0
    have hq1 := frozen_of_block hR3 1
    have hq2 := frozen_of_block hR3 2
    have hq3 := frozen_of_block hR3 3
    have hq4 := frozen_of_block hR3 4
    have hq5 := frozen_of_block hR3 5
    have HR3 := Lib.hid hR3
    have HB3 := Lib.hid hb03
    clear hR3 hb03
    cases hg : gridM viewSign l with
    | false =>
      have HG := Lib.hid hg
      clear hg hok
      go_wp2_with fail
      exact noView_ret HVM.out HR3.out rfl HB3.out
    | true =>
      have h14 : 14 < (hidM cells).length := by simp at hok; exact hok hg
      have hd : decide (14 < (hidM cells).length) = true := by simp; exact h14
      have HG := Lib.hid hg
      clear hg hok
      go_wp2_with fail
      exact noView_ret HVM.out HR3.out rfl HB3.out
end Go.Proofs.YtndmkbkmfonefadDoor
