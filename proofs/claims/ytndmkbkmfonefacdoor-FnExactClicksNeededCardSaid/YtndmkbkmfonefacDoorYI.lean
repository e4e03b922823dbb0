/- Opening: the cells alone, by the program. -/
import Derived.Test.YtndmkbkmfonefacDoorYG
import Derived.Outline
namespace Go.Proofs.YtndmkbkmfonefacDoor
open Go.RowKit

/-- Is a cell free, and in none of the rows? -/
def aloneB (cells : List UInt8) (rss : List (List Nat)) (k : Nat) : Bool := freeB cells k && ((wiM rss k).length == 0)
def aloneM (cells : List UInt8) (W : Geo) : List Nat := filtM (aloneB cells (openingsM cells W)) cells.length
theorem aloneM_le (cells : List UInt8) (W : Geo) : (aloneM cells W).length ≤ cells.length := filtM_le _ _

set_option maxRecDepth 100000 in
set_option maxHeartbeats 1600000 in
theorem cellsAlone1_any {J : Bool} (W H : Nat) (a : Option Addr) (cells : List UInt8) (cap : Nat) (rss : List (List Nat)) (av : Option Addr) (caps : Nat) (us : List Value) (B b1 b2 k : Nat) (w : World)
    (hG : w.heap[b1]? = some (.cells #[.int .i64 W, .int .i64 H, .slice a cells.length cap, .bool J] 42 (0, 0))) (hV : w.heap[b2]? = some (.cells #[.slice av rss.length caps] 37 (0, 0)))
    (hat : At w a (byts cells)) (hF : Fam w B ((.slice av rss.length caps, 25, us) :: (rowsF us rss ++ []))) (hus : us.length = rss.length) (h64 : cells.length ≤ 64) (hl : rss.length ≤ 64) (hr : ∀ r ∈ rss, r.length ≤ 64) (_hk : k < cells.length) :
    Calls Tryd.prog 79 #[.int .i64 (k : Int), .pointer (some ⟨b1, 0, none⟩), .pointer (some ⟨b2, 0, none⟩)] w fun e w' => e = .returned (.bool (aloneB cells rss k)) ∧ Below w.heap.size w w' := by
  have hf0 := cell_of_block hG 0
  have hf1 := cell_of_block hG 1
  have hf2 := cell_of_block hG 2
  have hf3 := cell_of_block hG 3
  have hg0 := cell_of_block hV 0
  simp at hf0 hf1 hf2 hf3 hg0
  have hVlt := block_lt hV
  have HA : Hid (aloneB cells rss k = (freeB cells k && ((wiM rss k).length == 0))) := rfl
  have HR := Lib.hid hr
  have HUS := Lib.hid hus
  have HV := Lib.hid hV
  have hif := isFree_any (J := J) W H a cells cap k w hat h64
  clear hr hus hG hV
  cases hfb : freeB cells k with
  | false =>
    rw [hfb] at hif
    have HB := Lib.hid hfb
    have HIF := Lib.hid hif
    clear hfb hif hg0
    go_enter Tryd.func79, Tryd.ntmps79
    go_wp2_with fail
    refine HIF.out.mono ?_
    rintro e w1 ⟨rfl, hb1⟩
    go_wp2_with fail
    go_ret
    exact ⟨by rw [HA.out, HB.out]; rfl, hb1⟩
  | true =>
    rw [hfb] at hif
    have HB := Lib.hid hfb
    have HIF := Lib.hid hif
    clear hfb hif hg0
    go_enter Tryd.func79, Tryd.ntmps79
    go_wp2_with (go_at_call 58; refine HIF.out.mono ?_; rintro e w1 ⟨rfl, hb1⟩; have hg1 := cell_of_block ((hb1.block b2 hVlt).trans HV.out) 0; simp at hg1)
    refine (openingsWith_any rss k av caps us [] B _ HUS.out (hF.later hb1) (by omega) (fun r h => by have := HR.out r h; omega)).mono ?_
    rintro e w2 ⟨a2, cap2, rfl, hown2, hb2⟩
    have hwl := wiM_le rss k
    clear hown2
    cases hz : ((wiM rss k).length == 0) with
    | true =>
      have hd : (((wiM rss k).length : Int) == 0) = true := by simp at hz; simp [hz]
      have HZ := Lib.hid hz
      clear hz
      go_wp2_with fail
      go_ret
      exact ⟨by rw [HA.out, HB.out, HZ.out]; rfl, hb1.trans (hb2.mono hb1.size)⟩
    | false =>
      have hd : (((wiM rss k).length : Int) == 0) = false := by rw [beq_eq_false_iff_ne] at hz ⊢; omega
      have HZ := Lib.hid hz
      clear hz
      go_wp2_with fail
      go_ret
      exact ⟨by rw [HA.out, HB.out, HZ.out]; rfl, hb1.trans (hb2.mono hb1.size)⟩
theorem enters_cellsAlone1 (args : Array Value) (w' : World) : (callFunc 79 args).run Tryd.prog w' = .ok (.enter 79 args) w' := by
  go_simp

set_option maxRecDepth 100000 in
set_option maxHeartbeats 1600000 in
theorem cellsAloneJ_any {J : Bool} (W H : Nat) (a : Option Addr) (cells : List UInt8) (cap : Nat) (w : World) (hat : At w a (byts cells)) (h64 : cells.length ≤ 64) (hw1 : 0 < cells.length → 1 ≤ W) (hJ : J = true → (1 ≤ W ∧ W ≤ 1048576) ∧ (1 ≤ H ∧ H ≤ 1048576)) :
    Calls Tryd.prog 51 #[.agg #[.int .i64 W, .int .i64 H, .slice a cells.length cap, .bool J]] w fun e w' => ∃ a' cap', e = .returned (.slice a' (aloneM cells (geoOf J W H)).length cap') ∧ Owns w' w.heap.size 3 (.slice a' (aloneM cells (geoOf J W H)).length cap') (nats (aloneM cells (geoOf J W H))) ∧ Below w.heap.size w w' := by
  have HA : Hid (aloneM cells (geoOf J W H) = filtM (aloneB cells (openingsM cells (geoOf J W H))) cells.length) := rfl
  have hrl : (openingsM cells (geoOf J W H)).length ≤ 64 := by rw [openingsM, List.length_map]; exact Nat.le_trans (firstsM_le _ _) h64
  have HR : Hid (∀ r ∈ openingsM cells (geoOf J W H), r.length ≤ 64) := by
    intro r hr
    simp only [openingsM, List.mem_map] at hr
    obtain ⟨z, _, rfl⟩ := hr
    exact Nat.le_trans (opM_le _ _ _) h64
  have hop := fun (w : World) (h : At w a (byts cells)) => openingsJ_any W H a cells cap w h h64 hw1 hJ
  have HOP := Lib.hid hop
  clear hop
  have hb0 : Below w.heap.size w (w.alloc (.cells #[.int .i64 W, .int .i64 H, .slice a cells.length cap, .bool J] 42)) := (Below.refl _ _).alloc (Nat.le_refl _) _
  have hG0 : (w.alloc (.cells #[.int .i64 W, .int .i64 H, .slice a cells.length cap, .bool J] 42)).heap[w.heap.size]? = some (.cells #[.int .i64 W, .int .i64 H, .slice a cells.length cap, .bool J] 42 (0, 0)) := heap_alloc_new w _
  have hs0 : w.heap.size < (w.alloc (.cells #[.int .i64 W, .int .i64 H, .slice a cells.length cap, .bool J] 42)).heap.size := by simp
  generalize openingsM cells (geoOf J W H) = rss at *
  generalize aloneM cells (geoOf J W H) = alone at *
  go_enter Tryd.func51, Tryd.ntmps51
  go_wp2_with fail
  have hat0 : At (w.alloc (.cells #[.int .i64 W, .int .i64 H, .slice a cells.length cap, .bool J] 42)) a (byts cells) := hat.later rfl hb0
  generalize w.alloc (.cells #[.int .i64 W, .int .i64 H, .slice a cells.length cap, .bool J] 42) = w0 at *
  have HG0 := Lib.hid hG0
  clear hG0
  refine (HOP.out _ hat0).mono ?_
  rintro e w1 ⟨v, us, rfl, hus, hF, hb1⟩
  obtain ⟨a1, cap1, hv⟩ := hF.head.shape
  rw [hus] at hv
  subst hv
  have HUS := Lib.hid hus
  have s1 := hb1.size
  have hG1 := (hb1.block w.heap.size hs0).trans HG0.out
  have hf0 := cell_of_block hG1 0
  have hf1 := cell_of_block hG1 1
  have hf2 := cell_of_block hG1 2
  have hf3 := cell_of_block hG1 3
  simp at hf0 hf1 hf2 hf3
  have hG1lt := block_lt hG1
  have HG1 := Lib.hid hG1
  clear hus hG1
  go_wp2_with fail
  have hb2 : Below w1.heap.size w1 (w1.alloc (.cells #[.slice a1 rss.length cap1] 37)) := (Below.refl _ _).alloc (Nat.le_refl _) _
  have hV2 : (w1.alloc (.cells #[.slice a1 rss.length cap1] 37)).heap[w1.heap.size]? = some (.cells #[.slice a1 rss.length cap1] 37 (0, 0)) := heap_alloc_new w1 _
  have hs2 : w1.heap.size < (w1.alloc (.cells #[.slice a1 rss.length cap1] 37)).heap.size := by simp
  have hF2 : Fam (w1.alloc (.cells #[.slice a1 rss.length cap1] 37)) w0.heap.size ((.slice a1 rss.length cap1, 25, us) :: (rowsF us rss ++ [])) := by rw [List.append_nil]; exact hF.later hb2
  have hat2 := (hat0.later rfl hb1).later rfl hb2
  have hG2 := (hb2.block w.heap.size hG1lt).trans HG1.out
  generalize w1.alloc (.cells #[.slice a1 rss.length cap1] 37) = w2 at *
  refine (pick_any W H a cells.length cap (aloneB cells rss) 79 #[] #[.pointer (some ⟨w.heap.size, 0, none⟩), .pointer (some ⟨w1.heap.size, 0, none⟩)] w2 h64 enters_cellsAlone1 ?_).mono ?_
  · intro w' k hb' hk
    exact cellsAlone1_any W H a cells cap rss a1 cap1 us w0.heap.size w.heap.size w1.heap.size k w' ((hb'.block _ (by omega)).trans hG2) ((hb'.block _ hs2).trans hV2) (hat2.later rfl hb') (hF2.later hb') HUS.out h64 hrl HR.out hk
  · rintro e w3 ⟨a', cap', rfl, hown3, hb3⟩
    rw [← HA.out] at hown3 ⊢
    go_wp2_with fail
    go_ret
    exact ⟨a', cap', rfl, hown3.mono (by omega), ((hb0.trans (hb1.mono (by omega))).trans (hb2.mono (by omega))).trans (hb3.mono (by omega))⟩
/-- The same where rows are not joined. -/
theorem cellsAlone_any (W H : Nat) (a : Option Addr) (cells : List UInt8) (cap : Nat) (w : World) (hat : At w a (byts cells)) (h64 : cells.length ≤ 64) (hw1 : 0 < cells.length → 1 ≤ W) :
    Calls Tryd.prog 51 #[.agg #[.int .i64 W, .int .i64 H, .slice a cells.length cap, .bool false]] w fun e w' => ∃ a' cap', e = .returned (.slice a' (aloneM cells W).length cap') ∧ Owns w' w.heap.size 3 (.slice a' (aloneM cells W).length cap') (nats (aloneM cells W)) ∧ Below w.heap.size w w' :=
  cellsAloneJ_any W H a cells cap w hat h64 hw1 nofun

/-- The cells alone of a text. -/
def aloneOf (l : List UInt8) : List Nat := aloneM (gCells l) (gW l)
theorem aloneOf_len (l : List UInt8) : (aloneOf l).length ≤ 1048576 := Nat.le_trans (aloneM_le _ _) (Nat.le_trans (gCells_le l) (by decide))
theorem aloneOf_none {l : List UInt8} (h : boGoodM l = false) : aloneOf l = [] := by rw [aloneOf, gCells_none h]; rfl

set_option maxRecDepth 100000 in
set_option maxHeartbeats 800000 in
theorem iCellsAlone_any (l : List UInt8) (w : World) (hM : HasMax w) (hl : l.length ≤ 1048576) :
    Calls Tryd.prog 21 #[.string ⟨l.toArray⟩] w fun e w' => ∃ a cap, e = .returned (.tuple #[.slice a (aloneOf l).length cap, .bool (boGoodM l)]) ∧ Owns w' w.heap.size 3 (.slice a (aloneOf l).length cap) (nats (aloneOf l)) ∧ Below w.heap.size w w' := by
  have hgl := gCells_le l
  have hca := fun (w : World) a cap (h : At w a (byts (gCells l))) => cellsAlone_any (gW l) (gH l) a (gCells l) cap w h hgl (gW_pos l)
  rw [show aloneM (gCells l) (gW l) = aloneOf l from rfl] at hca
  have HCA := Lib.hid hca
  clear hca
  go_enter Tryd.func21, Tryd.ntmps21
  go_wp2_with fail
  refine (readBoard_any l _ hM hl).mono ?_
  rintro e w1 ⟨a, cap, rfl, hown, hb⟩
  have s1 := hb.size
  have hat : ∀ o, At (w1.alloc o) a (byts (gCells l)) := fun o => (hown.at).later rfl ((Below.refl _ _).alloc (Nat.le_refl _) _)
  go_wp2_with fail
  refine (HCA.out _ a cap (hat _)).mono ?_
  rintro e w2 ⟨a', cap', rfl, hown2, hb2⟩
  go_wp2_with fail
  go_ret2
  exact ⟨a', cap', rfl, hown2.mono (by simp; omega), (hb.alloc s1 _).trans (hb2.mono (by simp; omega))⟩
end Go.Proofs.YtndmkbkmfonefacDoor
