/- Clicks: whether all free cells are open behind them, by the program. -/
import Derived.Test.YtndmkbkmfonefadDoorVB
import Derived.Test.YtndmkbkmfonefadDoorV8
import Derived.Test.YtndmkbkmfonefadDoorYP
import Derived.Test.YtndmkbkmfonefadDoorVL
import Derived.Deep.QuietTactic
import Derived.BigQuiet
import Derived.Outline
namespace Go.Proofs.YtndmkbkmfonefadDoor
open Go.RowKit

theorem enters_isFreeC (args : Array Value) (w' : World) : (callFunc 45 args).run Tryd.prog w' = .ok (.enter 45 args) w' := by
  go_simp
theorem aftL_lt (cells : List UInt8) (W : Nat) : ∀ (cs L : List Nat), (∀ x ∈ L, x < cells.length) → ∀ x ∈ aftL cells W L cs, x < cells.length
  | [], _, h => h
  | c :: r, L, h => by
    rw [aftL]
    exact aftL_lt cells W r _ (aft_lt h c)

set_option maxRecDepth 100000 in
set_option maxHeartbeats 1600000 in
theorem iAreAllOpen_any (l : List UInt8) (xs : List Int) (a : Option Addr) (cap : Nat) (w : World) (hM : HasMax w) (hl : l.length ≤ 1048576) (hat : At w a (ints xs)) (hx : xs.length ≤ 1048576) :
    Calls Tryd.prog 20 #[.string ⟨l.toArray⟩, .slice a xs.length cap] w fun e w' => e = .returned (.tuple #[.bool (aaOf l xs), .bool (clkOK l xs)]) ∧ Below w.heap.size w w' := by
  have hrc := readClicks_any l xs a cap w hM hl hat hx
  have hoa := fun (w : World) (a' : Option Addr) (c' : Nat) (h : At w a' (byts (kC l xs))) => openAfter_any (kW l xs) (kH l xs) a' (kC l xs) c' (kS l xs) w h (kC_le l xs) (kS_le l xs) (fun h => by
    have := kS_lt l xs ((kS l xs)[0]) (List.getElem_mem h)
    exact kW_pos l xs (by omega)) (kS_lt l xs)
  have h64 := kC_le l xs
  have hz : ∀ w : World, (zeroValue 48).run Tryd.prog w = .ok (.agg (lst [])) w := fun w => by kernel_rfl
  have hszl : (Tryd.prog.info? 48).map (·.size) = some (lst (kS l xs)).size := by rw [lst_size (kS_le l xs)]; kernel_rfl
  have hszz : (lst []).size = (lst (kS l xs)).size := by rw [lst_size (kS_le l xs)]; rfl
  have honl : (lst (kS l xs)).all (·.oneCell') = true := lst_one _
  have HSZL := Lib.hid hszl
  have HSZZ := Lib.hid hszz
  have HONL := Lib.hid honl
  clear hszl hszz honl
  have HAF : Hid (clkOK l xs = false → aaOf l xs = false) := fun h => by rw [aaOf, h]; rfl
  have HAT : Hid (clkOK l xs = true → ∀ PL : List Nat, (∀ x, x ∈ PL ↔ x ∈ aftL (kC l xs) (kW l xs) [] (kS l xs)) → aaOf l xs = (((sortM (kC l xs).length PL).length : Int) == ((freeM (kC l xs)).length : Int))) := fun h PL hm => by
    have hg := (clk_yes h).1
    have e : kC l xs = gCells l := by rw [kC, if_pos h]
    rw [aaOf, h, oa_k, aftM, Bool.true_and, ← int_beq_len, sortM_congr hm, e, free_places _ (fun c hc => cells_sign hg c (by rw [gCells, if_pos hg] at hc; exact hc))]
  have HLT : Hid (∀ PL : List Nat, (∀ x, x ∈ PL ↔ x ∈ aftL (kC l xs) (kW l xs) [] (kS l xs)) → ∀ x ∈ PL, x < (kC l xs).length) := fun PL hm x hx => aftL_lt _ _ (kS l xs) [] (by simp) x ((hm x).1 hx)
  generalize lst [] = z0 at *
  generalize lst (kS l xs) = lq at *
  generalize kC l xs = cells at *
  generalize kW l xs = W at *
  generalize kH l xs = H at *
  generalize kS l xs = cs at *
  have HOA := Lib.hid hoa
  clear hoa
  cases hv : clkOK l xs with
  | false =>
    rw [hv] at hrc
    go_enter Tryd.func20, Tryd.ntmps20
    go_wp2_with fail
    refine hrc.mono ?_
    rintro e w1 ⟨a1, c1, rfl, hown1, hb1⟩
    have s1 := hb1.size
    go_wp2_with (refine wpList_store_row rfl _ _ _ rfl (w1.heap.size + 1) lq rfl rfl 48 z0 (heap_alloc2_new w1 _ _) HSZL.out HSZZ.out HONL.out ?_)
    go_quiet (fail)
    go_wp2_with fail
    go_ret2
    exact ⟨by rw [HAF.out hv]; rfl, below_drewN (hb1.trans (below_setRow (((Below.refl _ _).alloc (by omega) _).alloc (by simp; omega) _) (by omega) _)) _⟩
  | true =>
    rw [hv] at hrc
    go_enter Tryd.func20, Tryd.ntmps20
    go_wp2_with fail
    refine hrc.mono ?_
    rintro e w1 ⟨a1, c1, rfl, hown1, hb1⟩
    have s1 := hb1.size
    go_wp2_with (refine wpList_store_row rfl _ _ _ rfl (w1.heap.size + 1) lq rfl rfl 48 z0 (heap_alloc2_new w1 _ _) HSZL.out HSZZ.out HONL.out ?_)
    have hs3 : (((w1.alloc (.cells #[.int .i64 W, .int .i64 H, .slice a1 cells.length c1, .bool false] 45)).alloc (.cells z0 48)).setRow (w1.heap.size + 1) lq).heap.size = w1.heap.size + 2 := by simp
    have hG3 : (((w1.alloc (.cells #[.int .i64 W, .int .i64 H, .slice a1 cells.length c1, .bool false] 45)).alloc (.cells z0 48)).setRow (w1.heap.size + 1) lq).heap[w1.heap.size]? = some (.cells #[.int .i64 W, .int .i64 H, .slice a1 cells.length c1, .bool false] 45 (0, 0)) :=
      (setRow_other _ _ _ _ (by omega)).trans (heap_alloc2_old w1 _ _)
    have hL3 : (((w1.alloc (.cells #[.int .i64 W, .int .i64 H, .slice a1 cells.length c1, .bool false] 45)).alloc (.cells z0 48)).setRow (w1.heap.size + 1) lq).heap[w1.heap.size + 1]? = some (.cells lq 48 (0, 0)) :=
      setRow_heap _ _ z0 _ _ _ (heap_alloc2_new w1 _ _)
    have hb3 : Below w1.heap.size w1 (((w1.alloc (.cells #[.int .i64 W, .int .i64 H, .slice a1 cells.length c1, .bool false] 45)).alloc (.cells z0 48)).setRow (w1.heap.size + 1) lq) :=
      below_setRow (((Below.refl _ _).alloc (Nat.le_refl _) _).alloc (by simp) _) (by omega) _
    generalize ((w1.alloc (.cells #[.int .i64 W, .int .i64 H, .slice a1 cells.length c1, .bool false] 45)).alloc (.cells z0 48)).setRow (w1.heap.size + 1) lq = w3 at *
    have hsz4 : (Tryd.prog.info? 45).map (·.size) = some (#[Value.int .i64 W, .int .i64 H, .slice a1 cells.length c1, .bool false] : Array Value).size := by kernel_rfl
    have hat3 : At w3.drew a1 (byts cells) := (hown1.later hb3).at
    have hS : w3.drew.heap[w1.heap.size]? = some (.cells #[.int .i64 W, .int .i64 H, .slice a1 cells.length c1, .bool false] 45 (0, 0)) ∧ w3.drew.heap[w1.heap.size + 1]? = some (.cells lq 48 (0, 0)) := ⟨hG3, hL3⟩
    refine wp_region_held (S := fun w' => w'.heap[w1.heap.size]? = some (.cells #[.int .i64 W, .int .i64 H, .slice a1 cells.length c1, .bool false] 45 (0, 0)) ∧ w'.heap[w1.heap.size + 1]? = some (.cells lq 48 (0, 0))) (by kernel_rfl) ?_
    change wpAnyH _ _ _ _ _ _ _ _ (World.drew w3)
    refine wpAnyH_take (i := 0) (v := .bool true) rfl (by kernel_rfl) (by kernel_rfl) (by kernel_rfl) (fun _ _ _ h => h) (.inl ⟨by kernel_rfl, fun w _ => by go_simp⟩) hS ?_
    refine wpAnyH_take (i := 1) (v := .bool true) rfl (by kernel_rfl) (by kernel_rfl) (by kernel_rfl) (fun _ _ _ h => h) (.inl ⟨by kernel_rfl, fun w _ => by go_simp⟩) hS ?_
    refine wpAnyH_take (i := 2) rfl (by kernel_rfl) (by kernel_rfl) (by kernel_rfl) (fun _ _ _ h => h) (yields_rowG (by kernel_rfl) 45 _ rfl w1.heap.size (by rfl) 45 _ (0, 0) _ (fun _ h => h.1) Tryd.underlying45 rfl hsz4) hS ?_
    refine wpAnyH_take (i := 3) rfl (by kernel_rfl) (by kernel_rfl) (by kernel_rfl) (fun _ _ _ h => h) (yields_rowG (by kernel_rfl) 48 _ rfl (w1.heap.size + 1) (by rfl) 48 _ (0, 0) _ (fun _ h => h.2) Tryd.underlying48 rfl HSZL.out) hS ?_
    refine wpAnyH_take (i := 6) rfl (by kernel_rfl) (by kernel_rfl) (by kernel_rfl) (fun _ _ _ h => h) (yields_rowG (by kernel_rfl) 45 _ rfl w1.heap.size (by rfl) 45 _ (0, 0) _ (fun _ h => h.1) Tryd.underlying45 rfl hsz4) hS ?_
    refine wpAnyH_take (i := 7) rfl (by kernel_rfl) (by kernel_rfl) (by kernel_rfl) (fun _ _ _ h => h) (yields_rowG (by kernel_rfl) 45 _ rfl w1.heap.size (by rfl) 45 _ (0, 0) _ (fun _ h => h.1) Tryd.underlying45 rfl hsz4) hS ?_
    refine wpAnyH_take (i := 8) (v := .func (.func 45) #[.agg #[.int .i64 W, .int .i64 H, .slice a1 cells.length c1, .bool false]] #[]) rfl (by kernel_rfl) (by kernel_rfl) (by kernel_rfl) (fun _ _ _ h => h) (.inl ⟨by kernel_rfl, fun w _ => by go_simp⟩) hS ?_
    refine wpAnyH_take (i := 13) (v := .bool true) rfl (by kernel_rfl) (by kernel_rfl) (by kernel_rfl) (fun _ _ _ h => h) (.inl ⟨by kernel_rfl, fun w _ => by go_simp⟩) hS ?_
    go_simp
    refine wpAnyH_all (rs := [4]) (by kernel_rfl) (by simp) (fun i hi => ?_)
    obtain rfl : i = 4 := by simpa using hi
    refine wpOp_step rfl (fun K' hK => ?_)
    refine step_if (by kernel_rfl) ?_
    go_simp
    refine (HOA.out _ a1 c1 hat3).mono ?_
    rintro e w4 ⟨b, PL, rfl, hM4, hmem, hbl, hb4⟩
    have hsd : w3.drew.heap.size = w1.heap.size + 2 := hs3
    have s4 := hb4.size
    have hS4 : w4.heap[w1.heap.size]? = some (.cells #[.int .i64 W, .int .i64 H, .slice a1 cells.length c1, .bool false] 45 (0, 0)) ∧ w4.heap[w1.heap.size + 1]? = some (.cells lq 48 (0, 0)) := ⟨(hb4.block _ (by omega)).trans hS.1, (hb4.block _ (by omega)).trans hS.2⟩
    refine hK _ _ ⟨hS4, ?_⟩
    clear hK K'
    refine wpAnyH_all (rs := [5]) (by kernel_rfl) (by simp) (fun i hi => ?_)
    obtain rfl : i = 5 := by simpa using hi
    refine wpOp_step rfl (fun K' hK => ?_)
    refine step_if (by kernel_rfl) ?_
    refine wp_marks_len (n := cells.length) rfl (by rfl) hM4 (HLT.out PL hmem) (hK _ _ ⟨hS4, ?_⟩)
    clear hK K'
    go_simp
    have hat4 := hat3.later (B := w3.drew.heap.size) rfl hb4
    refine wpAnyH_all (rs := [9]) (by kernel_rfl) (by simp) (fun i hi => ?_)
    obtain rfl : i = 9 := by simpa using hi
    refine wpOp_step rfl (fun K' hK => ?_)
    refine step_if (by kernel_rfl) ?_
    go_simp
    refine (pick_any W H a1 cells.length c1 (fun k => freeB cells k) 45 #[.agg #[.int .i64 W, .int .i64 H, .slice a1 cells.length c1, .bool false]] #[] w4 h64 enters_isFreeC (fun w' k hb' _ => isFree_any (J := false) W H a1 cells c1 k w' (hat4.later rfl hb') h64)).mono ?_
    rintro e w5 ⟨a5, c5, rfl, hown5, hb5⟩
    have hS5 : w5.heap[w1.heap.size]? = some (.cells #[.int .i64 W, .int .i64 H, .slice a1 cells.length c1, .bool false] 45 (0, 0)) ∧ w5.heap[w1.heap.size + 1]? = some (.cells lq 48 (0, 0)) := ⟨(hb5.block _ (by omega)).trans hS4.1, (hb5.block _ (by omega)).trans hS4.2⟩
    have hbf : Below w.heap.size w w5 := ((hb1.trans (hb3.drew.mono s1)).trans (hb4.mono (by omega))).trans (hb5.mono (by omega))
    have HE : Hid (aaOf l xs = (((sortM cells.length PL).length : Int) == ((filtM (fun k => freeB cells k) cells.length).length : Int))) := HAT.out hv PL hmem
    generalize (sortM cells.length PL).length = n1 at *
    generalize (filtM (fun k => freeB cells k) cells.length).length = n2 at *
    refine hK _ _ ⟨hS5, ?_⟩
    clear hK K'
    go_simp
    refine wpAnyH_all (rs := [10]) (by kernel_rfl) (by simp) (fun i hi => ?_)
    obtain rfl : i = 10 := by simpa using hi
    refine wpOp_step rfl (fun K' hK => ?_)
    refine step_if (by kernel_rfl) ?_
    go_simp
    refine hK _ _ ⟨hS5, ?_⟩
    clear hK K'
    refine wpAnyH_all (rs := [11]) (by kernel_rfl) (by simp) (fun i hi => ?_)
    obtain rfl : i = 11 := by simpa using hi
    refine wpOp_step rfl (fun K' hK => ?_)
    refine step_if (by kernel_rfl) ?_
    go_simp
    refine hK _ _ ⟨hS5, ?_⟩
    clear hK K'
    refine wpAnyH_all (rs := [12]) (by kernel_rfl) (by simp) (fun i hi => ?_)
    obtain rfl : i = 12 := by simpa using hi
    refine wpOp_step rfl (fun K' hK => ?_)
    refine step_if (by kernel_rfl) ?_
    go_simp
    refine hK _ _ ⟨hS5, ?_⟩
    clear hK K'
    refine wpAnyH_all (rs := [14]) (by kernel_rfl) (by simp) (fun i hi => ?_)
    obtain rfl : i = 14 := by simpa using hi
    refine wpOp_step rfl (fun K' hK => ?_)
    refine step_if (by kernel_rfl) ?_
    go_simp
    refine hK _ _ ⟨hS5, ?_⟩
    clear hK K'
    refine wpAnyH_all (rs := [15]) (by kernel_rfl) (by simp) (fun i hi => ?_)
    obtain rfl : i = 15 := by simpa using hi
    refine wpOp_step rfl (fun K' hK => ?_)
    refine step_if (by kernel_rfl) ?_
    go_simp
    refine hK _ _ ⟨hS5, ?_⟩
    clear hK K'
    refine wpAnyH_done (by kernel_rfl) ?_ _
    go_wp2_with fail
    go_ret2
    exact ⟨by rw [HE.out]; rfl, hbf⟩
end Go.Proofs.YtndmkbkmfonefadDoor
