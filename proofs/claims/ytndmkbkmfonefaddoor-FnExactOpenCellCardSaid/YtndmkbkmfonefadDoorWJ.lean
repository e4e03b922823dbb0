/- Views: whether a board, of whichever size, fits, by the program. -/
import Derived.Test.YtndmkbkmfonefadDoorWI
import Derived.Outline
namespace Go.Proofs.YtndmkbkmfonefadDoor
open Go.RowKit

def mineB (cells : List UInt8) (k : Nat) : Bool := cells.getD k 0 == 42
/-- Whether a board of a view's size fits it, as the program asks. -/
def fbM (vc bc : List UInt8) (W : Nat) : Bool := decide (((hidM vc).filter (mineB bc)).length = (places 42 bc).length) && fitsM vc W (mineB bc)

theorem enters_isMineF (args : Array Value) (w' : World) : (callFunc 59 args).run Tryd.prog w' = .ok (.enter 59 args) w' := by
  go_simp
set_option maxRecDepth 100000 in
set_option maxHeartbeats 800000 in
theorem fitsBoard_diff (W H W' H' : Nat) (a : Option Addr) (n c : Nat) (ah : Option Addr) (nh ch : Nat) (an : Option Addr) (nn cn : Nat) (a' : Option Addr) (n' c' : Nat) (w : World) (hd : W' ≠ W ∨ H' ≠ H) :
    Calls Tryd.prog 62 #[.agg #[.int .i64 W, .int .i64 H, .slice a n c, .bool false, .slice ah nh ch, .slice an nn cn], .agg #[.int .i64 W', .int .i64 H', .slice a' n' c', .bool false]] w fun e w' => e = .returned (.bool false) ∧ Below w.heap.size w w' := by
  by_cases h1 : W' = W
  · subst h1
    have h2 : H' ≠ H := hd.elim (fun h => absurd rfl h) id
    have d1 : ((W' : Int) != (W' : Int)) = false := by simp
    have d2 : ((H' : Int) != (H : Int)) = true := by simp; omega
    clear h2 hd
    go_enter Tryd.func62, Tryd.ntmps62
    go_wp2_with fail
    go_ret
    exact ⟨rfl, ((Below.refl _ w).alloc (Nat.le_refl _) _).alloc (by simp) _⟩
  · have d1 : ((W' : Int) != (W : Int)) = true := by simp; omega
    clear h1 hd
    go_enter Tryd.func62, Tryd.ntmps62
    go_wp2_with fail
    go_ret
    exact ⟨rfl, ((Below.refl _ w).alloc (Nat.le_refl _) _).alloc (by simp) _⟩

set_option maxRecDepth 100000 in
set_option maxHeartbeats 1600000 in
theorem fitsBoard_same (W H : Nat) (a : Option Addr) (c : Nat) (vc bc : List UInt8) (ah : Option Addr) (ch : Nat) (an : Option Addr) (cn : Nat) (a' : Option Addr) (c' : Nat) (w : World)
    (hat : At w a (byts vc)) (hath : At w ah (nats (hidM vc))) (hatn : At w an (u64s (nearL vc W))) (hatb : At w a' (byts bc)) (hh : (hidM vc).length ≤ 14) (hW : W ≤ 8) (hH : H ≤ 8) (hn : vc.length = W * H) (h64 : vc.length ≤ 64) (hbl : bc.length = vc.length) :
    Calls Tryd.prog 62 #[.agg #[.int .i64 W, .int .i64 H, .slice a vc.length c, .bool false, .slice ah (hidM vc).length ch, .slice an vc.length cn], .agg #[.int .i64 W, .int .i64 H, .slice a' bc.length c', .bool false]] w fun e w' => e = .returned (.bool (fbM vc bc W)) ∧ Below w.heap.size w w' := by
  have d1 : ((W : Int) != (W : Int)) = false := by simp
  have d2 : ((H : Int) != (H : Int)) = false := by simp
  have hset := fun w hw hf => setOf_any (J := false) W H a vc.length c (hidM vc) ah ch an vc.length cn (mineB bc) 59 #[.agg #[.int .i64 W, .int .i64 H, .slice a' bc.length c', .bool false]] #[] w hw (by omega) enters_isMineF hf
  have hmn := fun (w' : World) (h : At w' a' (byts bc)) => mines_any (J := false) W H a' bc c' w' h (by omega)
  have hft := fun w' h1 h2 => fits_any W H a c vc ah (hidM vc).length ch an cn (mineB bc) w' h1 h2 hh hW hH hn h64
  have him : ∀ (w' : World) (k : Nat), At w' a' (byts bc) → k ∈ hidM vc → Calls Tryd.prog 59 (#[.agg #[.int .i64 W, .int .i64 H, .slice a' bc.length c', .bool false]].push (.int .i64 (k : Int)) ++ #[]) w' fun e w'' => e = .returned (.bool (mineB bc k)) ∧ Below w'.heap.size w' w'' := fun w' k h hk => by
    have hk2 : k < bc.length := by rw [hbl]; exact hidM_lt _ _ hk
    have h3 := isMine_any (J := false) W H a' bc c' k w' h hk2 (by omega)
    have e : mineB bc k = ((bc[k].toNat : Int) == 42) := by rw [show ((42 : Int)) = ((42 : Nat) : Int) from rfl, byte_beq bc[k] 42 (by omega)]; simp [mineB, List.getD, hk2]
    rw [e]
    exact h3
  have HPS := Lib.hid (pop_setM (mineB bc) (hidM vc) hh)
  have h14 : setM (mineB bc) (hidM vc) < 16384 := set14 _ _ hh
  have hF : Hid (fbM vc bc W = (decide (pop14 (setM (mineB bc) (hidM vc)) = (places 42 bc).length) && fitsM vc W (mineB bc))) := by rw [Hid, HPS.out]; rfl
  have hpl := Lib.hid (show (places 42 bc).length ≤ 64 by have := places_le 42 bc; omega)
  have HSET := Lib.hid hset
  have HMN := Lib.hid hmn
  have HFT := Lib.hid hft
  have HIM := Lib.hid him
  have HNN := Lib.hid hn
  have HBL := Lib.hid hbl
  clear hset hmn hft him hn hbl
  go_enter Tryd.func62, Tryd.ntmps62
  go_wp2_with fail
  have hb0 : Below w.heap.size w ((w.alloc (.cells #[.int .i64 W, .int .i64 H, .slice a vc.length c, .bool false, .slice ah (hidM vc).length ch, .slice an vc.length cn] 68)).alloc (.cells #[.int .i64 W, .int .i64 H, .slice a' bc.length c', .bool false] 45)) := ((Below.refl _ _).alloc (Nat.le_refl _) _).alloc (by simp) _
  have hV0 : ((w.alloc (.cells #[.int .i64 W, .int .i64 H, .slice a vc.length c, .bool false, .slice ah (hidM vc).length ch, .slice an vc.length cn] 68)).alloc (.cells #[.int .i64 W, .int .i64 H, .slice a' bc.length c', .bool false] 45)).heap[w.heap.size]? = some (.cells #[.int .i64 W, .int .i64 H, .slice a vc.length c, .bool false, .slice ah (hidM vc).length ch, .slice an vc.length cn] 68 (0, 0)) := (Below.heap_alloc _ _ _ (by simp)).trans (heap_alloc_new w _)
  have hG0 : ((w.alloc (.cells #[.int .i64 W, .int .i64 H, .slice a vc.length c, .bool false, .slice ah (hidM vc).length ch, .slice an vc.length cn] 68)).alloc (.cells #[.int .i64 W, .int .i64 H, .slice a' bc.length c', .bool false] 45)).heap[w.heap.size + 1]? = some (.cells #[.int .i64 W, .int .i64 H, .slice a' bc.length c', .bool false] 45 (0, 0)) := by
    have := heap_alloc_new (w.alloc (.cells #[.int .i64 W, .int .i64 H, .slice a vc.length c, .bool false, .slice ah (hidM vc).length ch, .slice an vc.length cn] 68)) (.cells #[.int .i64 W, .int .i64 H, .slice a' bc.length c', .bool false] 45)
    simpa using this
  have hs0 : w.heap.size + 1 < ((w.alloc (.cells #[.int .i64 W, .int .i64 H, .slice a vc.length c, .bool false, .slice ah (hidM vc).length ch, .slice an vc.length cn] 68)).alloc (.cells #[.int .i64 W, .int .i64 H, .slice a' bc.length c', .bool false] 45)).heap.size := by simp
  have hat0 := hat.later rfl hb0
  have hath0 := hath.later rfl hb0
  have hatn0 := hatn.later rfl hb0
  have hatb0 := hatb.later rfl hb0
  generalize (w.alloc (.cells #[.int .i64 W, .int .i64 H, .slice a vc.length c, .bool false, .slice ah (hidM vc).length ch, .slice an vc.length cn] 68)).alloc (.cells #[.int .i64 W, .int .i64 H, .slice a' bc.length c', .bool false] 45) = w0 at *
  refine (HSET.out _ hath0 (fun w' k h hk => HIM.out w' k (hatb0.later rfl h) hk)).mono ?_
  rintro e w1 ⟨rfl, hb1⟩
  have s1 := hb1.size
  have hVr := (hb1.block w.heap.size (by omega)).trans hV0
  have hGr := (hb1.block (w.heap.size + 1) hs0).trans hG0
  have hat1 := hat0.later rfl hb1
  have hatn1 := hatn0.later rfl hb1
  have hatb1 := hatb0.later rfl hb1
  clear hV0 hG0 hat hath hatn hatb hat0 hath0 hatn0 hatb0
  have hf0 := cell_of_block hVr 0
  have hf1 := cell_of_block hVr 1
  have hf2 := cell_of_block hVr 2
  have hf3 := cell_of_block hVr 3
  have hf4 := cell_of_block hVr 4
  have hf5 := cell_of_block hVr 5
  have hg0 := cell_of_block hGr 0
  have hg1 := cell_of_block hGr 1
  have hg2 := cell_of_block hGr 2
  have hg3 := cell_of_block hGr 3
  simp at hf0 hf1 hf2 hf3 hf4 hf5 hg0 hg1 hg2 hg3
  clear hVr hGr
  generalize setM (mineB bc) (hidM vc) = x at *
  have hkeep : ∀ w', Below w1.heap.size w1 w' → w'.cell? ⟨w.heap.size, 0, none⟩ = some (.int .i64 W) ∧ w'.cell? ⟨w.heap.size, 1, none⟩ = some (.int .i64 H) ∧ w'.cell? ⟨w.heap.size, 2, none⟩ = some (.slice a vc.length c) ∧ w'.cell? ⟨w.heap.size, 3, none⟩ = some (.bool false) ∧ w'.cell? ⟨w.heap.size, 4, none⟩ = some (.slice ah (hidM vc).length ch) ∧ w'.cell? ⟨w.heap.size, 5, none⟩ = some (.slice an vc.length cn) ∧ w'.cell? ⟨w.heap.size + 1, 0, none⟩ = some (.int .i64 W) ∧ w'.cell? ⟨w.heap.size + 1, 1, none⟩ = some (.int .i64 H) ∧ w'.cell? ⟨w.heap.size + 1, 2, none⟩ = some (.slice a' bc.length c') ∧ w'.cell? ⟨w.heap.size + 1, 3, none⟩ = some (.bool false) := fun w' h =>
    ⟨(h.cell (p := ⟨w.heap.size, 0, none⟩) (show w.heap.size < w1.heap.size by omega)).trans hf0, (h.cell (p := ⟨w.heap.size, 1, none⟩) (show w.heap.size < w1.heap.size by omega)).trans hf1, (h.cell (p := ⟨w.heap.size, 2, none⟩) (show w.heap.size < w1.heap.size by omega)).trans hf2, (h.cell (p := ⟨w.heap.size, 3, none⟩) (show w.heap.size < w1.heap.size by omega)).trans hf3, (h.cell (p := ⟨w.heap.size, 4, none⟩) (show w.heap.size < w1.heap.size by omega)).trans hf4, (h.cell (p := ⟨w.heap.size, 5, none⟩) (show w.heap.size < w1.heap.size by omega)).trans hf5,
      (h.cell (p := ⟨w.heap.size + 1, 0, none⟩) (show w.heap.size + 1 < w1.heap.size by omega)).trans hg0, (h.cell (p := ⟨w.heap.size + 1, 1, none⟩) (show w.heap.size + 1 < w1.heap.size by omega)).trans hg1, (h.cell (p := ⟨w.heap.size + 1, 2, none⟩) (show w.heap.size + 1 < w1.heap.size by omega)).trans hg2, (h.cell (p := ⟨w.heap.size + 1, 3, none⟩) (show w.heap.size + 1 < w1.heap.size by omega)).trans hg3⟩
  have HK := Lib.hid hkeep
  have hdr : Below w1.heap.size w1 w1.drew := (Below.refl _ w1).drew
  have s01 := hb0.size
  clear hkeep
  by_cases he : pop14 x = (places 42 bc).length
  · have hd : ((pop14 x : Int) == ((places 42 bc).length : Int)) = true := by simp [he]
    rw [decide_eq_true he] at hF
    clear he
    go_wp2_with fail
    go_region_held3 (fun w' => w'.cell? ⟨w.heap.size, 0, none⟩ = some (.int .i64 W) ∧ w'.cell? ⟨w.heap.size, 1, none⟩ = some (.int .i64 H) ∧ w'.cell? ⟨w.heap.size, 2, none⟩ = some (.slice a vc.length c) ∧ w'.cell? ⟨w.heap.size, 3, none⟩ = some (.bool false) ∧ w'.cell? ⟨w.heap.size, 4, none⟩ = some (.slice ah (hidM vc).length ch) ∧ w'.cell? ⟨w.heap.size, 5, none⟩ = some (.slice an vc.length cn) ∧ w'.cell? ⟨w.heap.size + 1, 0, none⟩ = some (.int .i64 W) ∧ w'.cell? ⟨w.heap.size + 1, 1, none⟩ = some (.int .i64 H) ∧ w'.cell? ⟨w.heap.size + 1, 2, none⟩ = some (.slice a' bc.length c') ∧ w'.cell? ⟨w.heap.size + 1, 3, none⟩ = some (.bool false))
      (first | with_reducible exact HK.out _ hdr | with_reducible exact HK.out _ hb12 | with_reducible exact HK.out _ hb13)
      ((first | (go_at_call 87; refine (count_any _ _ h14).mono ?_; rintro e w2 ⟨rfl, rfl⟩) | (go_at_call 88; refine (HMN.out _ (by exact hatb1.drew)).mono ?_; rintro e w3 ⟨am, cm, rfl, hom, hb3⟩; have hb12 : Below w1.heap.size w1 w3 := ofDrew hb3) | (go_at_call 89; refine (HFT.out _ (hat1.later rfl hb12) (hatn1.later rfl hb12)).mono ?_; rintro e w4 ⟨rfl, hb4⟩; have hb13 : Below w1.heap.size w1 w4 := hb12.trans (hb4.mono hb12.size))))
    go_wp2_with fail
    go_ret
    exact ⟨by rw [hF.out]; rfl, (hb0.trans (hb1.mono s01)).trans (hb13.mono (by omega))⟩
  · have hd : ((pop14 x : Int) == ((places 42 bc).length : Int)) = false := by simp; omega
    rw [decide_eq_false he] at hF
    clear he
    go_wp2_with fail
    first
      | (go_region_law (first | (go_simp; go_at_call 87; refine (count_any _ _ h14).mono ?_; rintro e w2 ⟨rfl, rfl⟩) | (go_simp; go_at_call 88; refine (HMN.out _ (by exact hatb1.drew)).mono ?_; rintro e w3 ⟨am, cm, rfl, hom, hb3⟩; have hb12 : Below w1.heap.size w1 w3 := ofDrew hb3)))
      | fail
    all_goals
      go_wp2_with fail
      go_ret
      exact ⟨by rw [hF.out]; rfl, (hb0.trans (hb1.mono s01)).trans (hb12.mono (by omega))⟩
end Go.Proofs.YtndmkbkmfonefadDoor
