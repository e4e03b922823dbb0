/- Groups of mines: the spots that have a mine. -/
import Derived.Test.YtndmkbkmfonefabDoorQ3
import Derived.Test.YtndmkbkmfonefabDoorI5
import Derived.Outline
namespace Go.Proofs.YtndmkbkmfonefabDoor
open Go.RowKit

def spOf (W k : Nat) : Nat × Nat := (k / W, k % W)
/-- The mines, as cells. -/
def minM (cells : List UInt8) : List Nat := places 42 cells
theorem minM_lt {cells : List UInt8} {k : Nat} (h : k ∈ minM cells) : k < cells.length := by
  unfold minM places at h
  rw [mem_placesGo] at h
  obtain ⟨_, h⟩ := h
  obtain ⟨hx, _⟩ := List.getElem?_eq_some_iff.1 h
  omega

theorem Spots.nocells {w : World} {b n : Nat} {L : List (Nat × Nat)} (h : Spots w b n L) : ∀ cur e f, w.heap[b]? ≠ some (.cells cur e f) := by
  intro cur e f hc
  obtain ⟨D, ⟨es, clock, hb, _⟩, _⟩ := h
  rw [hb] at hc
  cases hc

set_option maxRecDepth 100000 in
set_option maxHeartbeats 1600000 in
theorem mineSpots_any {J : Bool} (W H : Nat) (a : Option Addr) (cells : List UInt8) (cap : Nat) (w : World) (hat : At w a (byts cells)) (hW : 0 < cells.length → 1 ≤ W) (h64 : cells.length ≤ 64) :
    Calls Tryd.prog 81 #[.agg #[.int .i64 W, .int .i64 H, .slice a cells.length cap, .bool J]] w fun e w' => ∃ b n, e = .returned (.map (some b)) ∧ w.heap.size ≤ b ∧ n ≤ 64 ∧ Spots w' b n ((minM cells).map (spOf W)) ∧ Below w.heap.size w w' := by
  have hml : (minM cells).length ≤ 64 := by have := places_le 42 cells; unfold minM; omega
  have hlt_ := fun k (h : k ∈ minM cells) => minM_lt h
  have HM : Hid (places 42 cells = minM cells) := rfl
  have hmm := @run_makeMap Tryd.prog
  go_enter Tryd.func81, Tryd.ntmps81
  go_wp2_with fail
  have hb0 : Below w.heap.size w ((w.alloc (.cells #[.int .i64 W, .int .i64 H, .slice a cells.length cap, .bool J] 50)).alloc (.map #[] 0)) := ((Below.refl _ _).alloc (Nat.le_refl _) _).alloc (by simp) _
  have hG0 : ((w.alloc (.cells #[.int .i64 W, .int .i64 H, .slice a cells.length cap, .bool J] 50)).alloc (.map #[] 0)).heap[w.heap.size]? = some (.cells #[.int .i64 W, .int .i64 H, .slice a cells.length cap, .bool J] 50 (0, 0)) := (Below.heap_alloc _ _ _ (by simp)).trans (heap_alloc_new w _)
  have hM0 : Spots ((w.alloc (.cells #[.int .i64 W, .int .i64 H, .slice a cells.length cap, .bool J] 50)).alloc (.map #[] 0)) (w.heap.size + 1) 0 [] := by
    have := Spots.made (w.alloc (.cells #[.int .i64 W, .int .i64 H, .slice a cells.length cap, .bool J] 50))
    simpa using this
  have hs0 : ((w.alloc (.cells #[.int .i64 W, .int .i64 H, .slice a cells.length cap, .bool J] 50)).alloc (.map #[] 0)).heap.size = w.heap.size + 2 := by simp
  have hat0 := hat.later rfl hb0
  generalize (w.alloc (.cells #[.int .i64 W, .int .i64 H, .slice a cells.length cap, .bool J] 50)).alloc (.map #[] 0) = w0 at *
  refine (mines_any W H a cells cap w0 hat0 h64).mono ?_
  rintro e w1 ⟨am, cm, rfl, hom, hb1⟩
  have s1 := hb1.size
  have hG1 := (hb1.block w.heap.size (by omega)).trans hG0
  have hM1 := hM0.later hb1
  have ht1 : Touch (w.heap.size + 1) w0 w1 := Touch.of hb1
  have HS0 := Lib.hid hs0
  have HB0 := Lib.hid hb0
  rw [HM.out] at hom ⊢
  clear hat hat0 hb1 hM0 hG0 hs0 hb0 hmm
  have hlm := fun j hj => (hom.lt j hj)
  generalize hms : minM cells = ms at *
  have HMS := Lib.hid hms
  clear hms
  go_wp2_with fail
  have hatm := hom.at
  go_loopw [10] (fun i wr => ∃ k : Nat, k ≤ ms.length ∧ i = .int .i64 k ∧ Spots wr (w.heap.size + 1) k ((ms.take k).map (spOf W)) ∧ At wr am (nats ms) ∧ Touch (w.heap.size + 1) w1 wr) (fun i _ => ms.length - (intOf i).toNat)
  case atStart => exact ⟨0, Nat.zero_le _, rfl, hM1, hatm, Touch.refl _ _⟩
  case round =>
    obtain ⟨k, hk, rfl, hM, hatr, ht⟩ := hrel
    have hGr : wr.heap[w.heap.size]? = some (.cells #[.int .i64 W, .int .i64 H, .slice a cells.length cap, .bool J] 50 (0, 0)) := by rw [ht.block _ (by have := HS0.out; omega) (by simp)]; exact hG1
    have hf0 := cell_of_block hGr 0
    have hf1 := cell_of_block hGr 1
    have hf2 := cell_of_block hGr 2
    have hf3 := cell_of_block hGr 3
    simp at hf0 hf1 hf2 hf3
    by_cases hlt : k < ms.length
    · have hmk := hlt_ (ms[k]) (List.getElem_mem hlt)
      obtain ⟨b, off, rfl, hcx⟩ := nats_at hatr k hlt
      have hOK : spOK (spOf W ms[k]) := ⟨Nat.lt_of_le_of_lt (Nat.div_le_self _ _) (by omega), Nat.lt_of_le_of_lt (Nat.mod_le _ _) (by omega)⟩
      have HT := Lib.hid (show (ms.take (k + 1)).map (spOf W) = (ms.take k).map (spOf W) ++ [spOf W ms[k]] by rw [List.take_succ_eq_append_getElem hlt, List.map_append]; rfl)
      have hgs := HS0.out
      have hwr := ht.size
      clear hGr
      go_wp2_with fail
      refine (spotOf_any W H a cells.length cap ms[k] wr (hW (by omega)) (by omega)).mono ?_
      rintro e w3 ⟨rfl, hb3⟩
      have hM3 := hM.later hb3
      have hat3 := hatr.later rfl hb3
      have ht3 := ht.trans (Touch.of hb3)
      have hnc := hM3.nocells
      clear hM hatr hf0 hf1 hf2 hf3 hcx
      go_wp2_with (at_mapUpdate; refine wpList_spot_put rfl _ _ _ rfl (w.heap.size + 1) k _ rfl hM3 (spOf W ms[k]) rfl hOK rfl (by omega) ?_; intro w4 hM4 ht4)
      go_roundw
      case rel => exact ⟨k + 1, by omega, by go_num, by rw [HT.out]; exact hM4, hat3.touch ht4 hnc, ht3.trans ht4⟩
      case measure => simp [intOf]; omega
    · obtain rfl : k = ms.length := by omega
      rw [List.take_length] at hM
      have hgs := HS0.out
      go_wp2_with fail
      go_ret
      exact ⟨w.heap.size + 1, ms.length, rfl, by omega, hml, by rw [HMS.out]; exact hM, HB0.out.trans ((ht1.trans ht).below (by omega) (by omega))⟩
end Go.Proofs.YtndmkbkmfonefabDoor
