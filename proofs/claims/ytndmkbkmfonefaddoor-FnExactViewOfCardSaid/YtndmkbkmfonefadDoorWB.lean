/- What is seen behind clicks, by the program and by the model. -/
import Derived.Test.YtndmkbkmfonefadDoorVC
import Derived.Test.YtndmkbkmfonefadDoorWA
import Derived.Outline
namespace Go.Proofs.YtndmkbkmfonefadDoor
open Go.RowKit

theorem seeM_congr {cells : List UInt8} {W : Nat} {p q : Nat → Bool} (h : ∀ k, k < cells.length → p k = q k) : seeM cells W p = seeM cells W q := by
  unfold seeM
  apply List.map_congr_left
  intro k hk
  rw [List.mem_range] at hk
  rw [seeB, seeB, h k hk]
def saM (l : List UInt8) (xs : List Int) : List UInt8 := textM (seeM (kC l xs) (kW l xs) (fun k => decide (k ∈ oaOf l xs))) (kW l xs) (kH l xs)
theorem kC_len (l : List UInt8) (xs : List Int) : (kC l xs).length = kW l xs * kH l xs := by
  unfold kC kW kH
  split
  · exact gCells_len l
  · rfl
theorem kSize (l : List UInt8) (xs : List Int) : (kW l xs = 0 ∧ kH l xs = 0) ∨ ((1 ≤ kW l xs ∧ kW l xs ≤ 8) ∧ (1 ≤ kH l xs ∧ kH l xs ≤ 8)) := by
  unfold kW kH
  split
  · exact gSize l
  · exact .inl ⟨rfl, rfl⟩

set_option maxRecDepth 100000 in
set_option maxHeartbeats 1600000 in
theorem iSeenAfter_any (l : List UInt8) (xs : List Int) (a : Option Addr) (cap : Nat) (w : World) (hM : HasMax w) (hl : l.length ≤ 1048576) (hat : At w a (ints xs)) (hx : xs.length ≤ 1048576) :
    Calls Tryd.prog 24 #[.string ⟨l.toArray⟩, .slice a xs.length cap] w fun e w' => e = .returned (.tuple #[.string ⟨(saM l xs).toArray⟩, .bool (clkOK l xs)]) ∧ Below w.heap.size w w' := by
  have hrc := readClicks_any l xs a cap w hM hl hat hx
  have hoa := fun (w : World) (a' : Option Addr) (c' : Nat) (h : At w a' (byts (kC l xs))) => openAfter_any (kW l xs) (kH l xs) a' (kC l xs) c' (kS l xs) w h (kC_le l xs) (kS_le l xs) (fun h => by
    have := kS_lt l xs ((kS l xs)[0]) (List.getElem_mem h)
    exact kW_pos l xs (by omega)) (kS_lt l xs)
  have h64 := kC_le l xs
  have HA : Hid (∀ PL : List Nat, (∀ x, x ∈ PL ↔ x ∈ aftL (kC l xs) (kW l xs) [] (kS l xs)) → textM (seeM (kC l xs) (kW l xs) (fun k => decide (k ∈ PL))) (kW l xs) (kH l xs) = saM l xs) := fun PL h => by
    rw [saM]
    congr 1
    refine seeM_congr (fun k hk => decide_eq_decide.2 ?_)
    rw [oa_k, aftM, ← sortM_congr h, mem_sortM (fun y hy => aftL_lt _ _ (kS l xs) [] (by simp) y ((h y).1 hy))]
  have hkn := kC_len l xs
  have hkz := kSize l xs
  have HKN := Lib.hid hkn
  clear hkn
  have hz : ∀ w : World, (zeroValue 48).run Tryd.prog w = .ok (.agg (lst [])) w := fun w => by kernel_rfl
  have hszl : (Tryd.prog.info? 48).map (·.size) = some (lst (kS l xs)).size := by rw [lst_size (kS_le l xs)]; kernel_rfl
  have hszz : (lst []).size = (lst (kS l xs)).size := by rw [lst_size (kS_le l xs)]; rfl
  have honl : (lst (kS l xs)).all (·.oneCell') = true := lst_one _
  have HSZL := Lib.hid hszl
  have HSZZ := Lib.hid hszz
  have HONL := Lib.hid honl
  clear hszl hszz honl
  generalize saM l xs = sa at *
  generalize lst [] = z0 at *
  generalize lst (kS l xs) = lq at *
  generalize kC l xs = cells at *
  generalize kW l xs = W at *
  generalize kH l xs = H at *
  generalize kS l xs = cs at *
  have HOA := Lib.hid hoa
  clear hoa
  go_enter Tryd.func24, Tryd.ntmps24
  go_wp2_with fail
  refine hrc.mono ?_
  rintro e w1 ⟨a1, c1, rfl, hown1, hb1⟩
  have s1 := hb1.size
  go_wp2_with (refine wpList_store_row rfl _ _ _ rfl (w1.heap.size + 1) lq rfl rfl 48 z0 (heap_alloc2_new w1 _ _) HSZL.out HSZZ.out HONL.out ?_)
  have hs3 : (((w1.alloc (.cells #[.int .i64 W, .int .i64 H, .slice a1 cells.length c1, .bool false] 45)).alloc (.cells z0 48)).setRow (w1.heap.size + 1) lq).heap.size = w1.heap.size + 2 := by simp
  have hG3 : (((w1.alloc (.cells #[.int .i64 W, .int .i64 H, .slice a1 cells.length c1, .bool false] 45)).alloc (.cells z0 48)).setRow (w1.heap.size + 1) lq).heap[w1.heap.size]? = some (.cells #[.int .i64 W, .int .i64 H, .slice a1 cells.length c1, .bool false] 45 (0, 0)) :=
    (setRow_other _ _ _ _ (by omega)).trans (heap_alloc2_old w1 _ _)
  have hL3 : (((w1.alloc (.cells #[.int .i64 W, .int .i64 H, .slice a1 cells.length c1, .bool false] 45)).alloc (.cells z0 48)).setRow (w1.heap.size + 1) lq).heap[w1.heap.size + 1]? = some (.cells lq 48 (0, 0)) :=
    setRow_heap _ _ z0 _ _ _ (heap_alloc2_new w1 _ _)
  have hb3 : Below w1.heap.size w1 (((w1.alloc (.cells #[.int .i64 W, .int .i64 H, .slice a1 cells.length c1, .bool false] 45)).alloc (.cells z0 48)).setRow (w1.heap.size + 1) lq) :=
    below_setRow (((Below.refl _ _).alloc (Nat.le_refl _) _).alloc (by simp) _) (by omega) _
  generalize ((w1.alloc (.cells #[.int .i64 W, .int .i64 H, .slice a1 cells.length c1, .bool false] 45)).alloc (.cells z0 48)).setRow (w1.heap.size + 1) lq = w3 at *
  have hsz4 : (Tryd.prog.info? 45).map (·.size) = some (#[Value.int .i64 W, .int .i64 H, .slice a1 cells.length c1, .bool false] : Array Value).size := by kernel_rfl
  have hat3 : At w3.drew a1 (byts cells) := (hown1.later hb3).at
  have hS : w3.drew.heap[w1.heap.size]? = some (.cells #[.int .i64 W, .int .i64 H, .slice a1 cells.length c1, .bool false] 45 (0, 0)) ∧ w3.drew.heap[w1.heap.size + 1]? = some (.cells lq 48 (0, 0)) := ⟨hG3, hL3⟩
  refine wp_region_held (S := fun w' => w'.heap[w1.heap.size]? = some (.cells #[.int .i64 W, .int .i64 H, .slice a1 cells.length c1, .bool false] 45 (0, 0)) ∧ w'.heap[w1.heap.size + 1]? = some (.cells lq 48 (0, 0))) (by kernel_rfl) ?_
  change wpAnyH _ _ _ _ _ _ _ _ (World.drew w3)
  refine wpAnyH_take (i := 0) rfl (by kernel_rfl) (by kernel_rfl) (by kernel_rfl) (fun _ _ _ h => h) (yields_row rfl 45 _ rfl w1.heap.size (by rfl) 45 _ (0, 0) _ (fun _ h => h.1) Tryd.underlying45 rfl hsz4) hS ?_
  refine wpAnyH_take (i := 1) rfl (by kernel_rfl) (by kernel_rfl) (by kernel_rfl) (fun _ _ _ h => h) (yields_row rfl 45 _ rfl w1.heap.size (by rfl) 45 _ (0, 0) _ (fun _ h => h.1) Tryd.underlying45 rfl hsz4) hS ?_
  refine wpAnyH_take (i := 2) rfl (by kernel_rfl) (by kernel_rfl) (by kernel_rfl) (fun _ _ _ h => h) (yields_row rfl 48 _ rfl (w1.heap.size + 1) (by rfl) 48 _ (0, 0) _ (fun _ h => h.2) Tryd.underlying48 rfl HSZL.out) hS ?_
  refine wpAnyH_take (i := 5) (v := .bool (clkOK l xs)) rfl (by kernel_rfl) (by kernel_rfl) (by kernel_rfl) (fun _ _ _ h => h) (.inl ⟨by rfl, fun w _ => by rfl⟩) hS ?_
  refine wpAnyH_all (rs := [3]) (by kernel_rfl) (by simp) (fun i hi => ?_)
  obtain rfl : i = 3 := by simpa using hi
  refine wpOp_step rfl (fun K' hK => ?_)
  rw [if_pos (by rfl)]
  go_simp
  refine (HOA.out _ a1 c1 hat3).mono ?_
  rintro e w4 ⟨b, PL, rfl, hM4, hmem, hbl, hb4⟩
  have hsd : w3.drew.heap.size = w1.heap.size + 2 := hs3
  have s4 := hb4.size
  have hS4 : w4.heap[w1.heap.size]? = some (.cells #[.int .i64 W, .int .i64 H, .slice a1 cells.length c1, .bool false] 45 (0, 0)) ∧ w4.heap[w1.heap.size + 1]? = some (.cells lq 48 (0, 0)) := ⟨(hb4.block _ (by omega)).trans hS.1, (hb4.block _ (by omega)).trans hS.2⟩
  refine hK _ _ ⟨hS4, ?_⟩
  clear hK K'
  refine wpAnyH_all (rs := [4]) (by kernel_rfl) (by simp) (fun i hi => ?_)
  obtain rfl : i = 4 := by simpa using hi
  refine wpOp_step rfl (fun K' hK => ?_)
  rw [if_pos (by rfl)]
  go_simp
  refine (seenText_any W H a1 cells c1 b PL w4 (hat3.later (B := w3.drew.heap.size) rfl hb4) hM4 HKN.out hkz).mono ?_
  rintro e w5 ⟨rfl, hb5⟩
  rw [HA.out PL hmem]
  have hS5 : w5.heap[w1.heap.size]? = some (.cells #[.int .i64 W, .int .i64 H, .slice a1 cells.length c1, .bool false] 45 (0, 0)) ∧ w5.heap[w1.heap.size + 1]? = some (.cells lq 48 (0, 0)) := ⟨(hb5.block _ (by omega)).trans hS4.1, (hb5.block _ (by omega)).trans hS4.2⟩
  refine hK _ _ ⟨hS5, ?_⟩
  clear hK K'
  refine wpAnyH_all (rs := [6]) (by kernel_rfl) (by simp) (fun i hi => ?_)
  obtain rfl : i = 6 := by simpa using hi
  refine wpOp_step rfl (fun K' hK => ?_)
  rw [if_pos (by rfl)]
  go_simp
  refine hK _ _ ⟨hS5, ?_⟩
  clear hK K'
  refine wpAnyH_all (rs := [7]) (by kernel_rfl) (by simp) (fun i hi => ?_)
  obtain rfl : i = 7 := by simpa using hi
  refine wpOp_step rfl (fun K' hK => ?_)
  rw [if_pos (by rfl)]
  go_simp
  refine hK _ _ ⟨hS5, ?_⟩
  clear hK K'
  refine wpAnyH_done (by kernel_rfl) ?_ _
  have hbf : Below w.heap.size w w5 := ((hb1.trans (hb3.drew.mono s1)).trans (hb4.mono (by omega))).trans (hb5.mono (by omega))
  go_wp2_with fail
  go_ret2
  exact ⟨rfl, hbf⟩
end Go.Proofs.YtndmkbkmfonefadDoor
