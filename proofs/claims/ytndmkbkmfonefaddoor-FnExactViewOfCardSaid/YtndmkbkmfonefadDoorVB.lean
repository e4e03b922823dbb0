/- Clicks read by the program, in any case; the cells open behind them. -/
import Derived.Test.YtndmkbkmfonefadDoorVA
import Derived.Test.YtndmkbkmfonefadDoorGV1
import Derived.Outline
namespace Go.Proofs.YtndmkbkmfonefadDoor
open Go.RowKit

/-- What the program reads of a board and clicks: none if one of them is none. -/
def kC (l : List UInt8) (xs : List Int) : List UInt8 := if clkOK l xs = true then gCells l else []
def kW (l : List UInt8) (xs : List Int) : Nat := if clkOK l xs = true then gW l else 0
def kH (l : List UInt8) (xs : List Int) : Nat := if clkOK l xs = true then gH l else 0
def kS (l : List UInt8) (xs : List Int) : List Nat := if clkOK l xs = true then csOf xs else []
theorem kC_le (l : List UInt8) (xs : List Int) : (kC l xs).length ≤ 64 := by
  unfold kC; split
  · exact gCells_le l
  · simp
theorem kS_le (l : List UInt8) (xs : List Int) : (kS l xs).length ≤ 64 := by
  unfold kS; split
  · rename_i h; rw [csOf_length]; exact (clk_yes h).2.1
  · simp
theorem kW_pos (l : List UInt8) (xs : List Int) : 0 < (kC l xs).length → 1 ≤ kW l xs := by
  unfold kC kW; split
  · exact gW_pos l
  · simp
theorem kS_lt (l : List UInt8) (xs : List Int) : ∀ c ∈ kS l xs, c < (kC l xs).length := by
  unfold kS kC; split
  · rename_i h; exact fun c hc => ((clk_cells h).2 c hc).1
  · simp
theorem oaOf_len (l : List UInt8) (xs : List Int) : (oaOf l xs).length ≤ 1048576 := by
  unfold oaOf; split
  · have := sortM_le (gCells l).length (aftL (gCells l) (gW l) [] (csOf xs))
    have := gCells_le l
    unfold aftM; omega
  · simp
theorem oa_k (l : List UInt8) (xs : List Int) : oaOf l xs = aftM (kC l xs) (kW l xs) (kS l xs) := by
  unfold oaOf kC kW kS
  split
  · rfl
  · rfl

theorem csOf_ints {l : List UInt8} {xs : List Int} (h : clkOK l xs = true) : xs = (csOf xs).map Int.ofNat := by
  obtain ⟨_, _, hf⟩ := clk_yes h
  simp only [csOf, List.map_map]
  conv => lhs; rw [← List.map_id xs]
  apply List.map_congr_left
  intro x hx
  obtain ⟨_, k, rfl, _, _⟩ := freeOK_yes (hf x hx)
  rfl
theorem readClicks_any (l : List UInt8) (xs : List Int) (a : Option Addr) (cap : Nat) (w : World) (hM : HasMax w) (hl : l.length ≤ 1048576) (hat : At w a (ints xs)) (hx : xs.length ≤ 1048576) :
    Calls Tryd.prog 39 #[.string ⟨l.toArray⟩, .slice a xs.length cap] w fun e w' => ∃ a' c', e = .returned (.tuple #[.agg #[.int .i64 (kW l xs), .int .i64 (kH l xs), .slice a' (kC l xs).length c', .bool false], .agg (lst (kS l xs)), .bool (clkOK l xs)])
      ∧ Owns w' w.heap.size 5 (.slice a' (kC l xs).length c') (byts (kC l xs)) ∧ Below w.heap.size w w' := by
  have hbad : clkOK l xs = false → kC l xs = [] ∧ kW l xs = 0 ∧ kH l xs = 0 ∧ kS l xs = [] := by
    intro h
    have hn : ¬ clkOK l xs = true := by rw [h]; decide
    exact ⟨by rw [kC, if_neg hn], by rw [kW, if_neg hn], by rw [kH, if_neg hn], by rw [kS, if_neg hn]⟩
  by_cases hg : boGoodM l = true
  · by_cases h64 : xs.length ≤ 64
    · have hck := clk_short hg h64
      refine (readClicks_good l xs a cap w hM hl hat h64 hg).mono ?_
      rintro e w' ⟨h | h, hb⟩
      · obtain ⟨hall, a', c', rfl, ho⟩ := h
        have hv : clkOK l xs = true := by rw [hck, hall]
        have e1 : lstK xs xs.length = lst (kS l xs) := by
          rw [kS, if_pos hv, ← lstK_nats (csOf xs), ← csOf_ints hv, csOf_length]
        refine ⟨a', c', ?_, ?_, hb⟩
        · rw [e1, kW, kH, kC, if_pos hv, if_pos hv, if_pos hv, hv]
        · rw [kC, if_pos hv]; exact ho
      · obtain ⟨hall, rfl⟩ := h
        have hv : clkOK l xs = false := by rw [hck, hall]
        obtain ⟨e1, e2, e3, e4⟩ := hbad hv
        rw [e1, e2, e3, e4, hv]
        exact ⟨none, 0, rfl, Owns.nil _ _ _, hb⟩
    · have hv : clkOK l xs = false := by simp [clkOK, h64]
      obtain ⟨e1, e2, e3, e4⟩ := hbad hv
      refine (readClicks_bad l xs a cap w hM hl hat hx (.inr ⟨hg, by omega⟩)).mono ?_
      rintro e w' ⟨rfl, hb⟩
      rw [e1, e2, e3, e4, hv]
      exact ⟨none, 0, rfl, Owns.nil _ _ _, hb⟩
  · have hg' : boGoodM l = false := by simpa using hg
    have hv : clkOK l xs = false := by simp [clkOK, hg']
    obtain ⟨e1, e2, e3, e4⟩ := hbad hv
    refine (readClicks_bad l xs a cap w hM hl hat hx (.inl hg')).mono ?_
    rintro e w' ⟨rfl, hb⟩
    rw [e1, e2, e3, e4, hv]
    exact ⟨none, 0, rfl, Owns.nil _ _ _, hb⟩

theorem lst_one (cs : List Nat) : (lst cs).all (·.oneCell') = true := by
  simp [lst, nats, ints, Value.oneCell']

set_option maxRecDepth 100000 in
set_option maxHeartbeats 1600000 in
theorem iOpenAfter_any (l : List UInt8) (xs : List Int) (a : Option Addr) (cap : Nat) (w : World) (hM : HasMax w) (hl : l.length ≤ 1048576) (hat : At w a (ints xs)) (hx : xs.length ≤ 1048576) :
    Calls Tryd.prog 15 #[.string ⟨l.toArray⟩, .slice a xs.length cap] w fun e w' => ∃ a' c', e = .returned (.tuple #[.slice a' (oaOf l xs).length c', .bool (clkOK l xs)]) ∧ Owns w' w.heap.size 3 (.slice a' (oaOf l xs).length c') (nats (oaOf l xs)) ∧ Below w.heap.size w w' := by
  have hrc := readClicks_any l xs a cap w hM hl hat hx
  have hoa := fun (w : World) (a' : Option Addr) (c' : Nat) (h : At w a' (byts (kC l xs))) => openAfter_any (kW l xs) (kH l xs) a' (kC l xs) c' (kS l xs) w h (kC_le l xs) (kS_le l xs) (fun h => by
    have := kS_lt l xs ((kS l xs)[0]) (List.getElem_mem h)
    exact kW_pos l xs (by omega)) (kS_lt l xs)
  have h64 := kC_le l xs
  have HO := Lib.hid (oa_k l xs)
  have HA : Hid (∀ PL : List Nat, (∀ x, x ∈ PL ↔ x ∈ aftL (kC l xs) (kW l xs) [] (kS l xs)) → sortM (kC l xs).length PL = aftM (kC l xs) (kW l xs) (kS l xs)) := fun PL h => by rw [aftM]; exact sortM_congr h
  have hz : ∀ w : World, (zeroValue 48).run Tryd.prog w = .ok (.agg (lst [])) w := fun w => by kernel_rfl
  have hszl : (Tryd.prog.info? 48).map (·.size) = some (lst (kS l xs)).size := by rw [lst_size (kS_le l xs)]; kernel_rfl
  have hszz : (lst []).size = (lst (kS l xs)).size := by rw [lst_size (kS_le l xs)]; rfl
  have honl : (lst (kS l xs)).all (·.oneCell') = true := lst_one _
  have HSZL := Lib.hid hszl
  have HSZZ := Lib.hid hszz
  have HONL := Lib.hid honl
  clear hszl hszz honl
  generalize lst [] = z0 at *
  generalize lst (kS l xs) = lq at *
  generalize kC l xs = cells at *
  generalize kW l xs = W at *
  generalize kH l xs = H at *
  generalize kS l xs = cs at *
  have HOA := Lib.hid hoa
  clear hoa
  go_enter Tryd.func15, Tryd.ntmps15
  go_wp2_with fail
  refine hrc.mono ?_
  rintro e w1 ⟨a1, c1, rfl, hown1, hb1⟩
  have s1 := hb1.size
  go_wp2_with (refine wpList_store_row rfl _ _ _ rfl (w1.heap.size + 1) lq rfl rfl 48 z0 (heap_alloc2_new w1 _ _) HSZL.out HSZZ.out HONL.out ?_)
  have hs3 : (((w1.alloc (.cells #[.int .i64 W, .int .i64 H, .slice a1 cells.length c1, .bool false] 45)).alloc (.cells z0 48)).setRow (w1.heap.size + 1) lq).heap.size = w1.heap.size + 2 := by simp
  have hG3 : (((w1.alloc (.cells #[.int .i64 W, .int .i64 H, .slice a1 cells.length c1, .bool false] 45)).alloc (.cells z0 48)).setRow (w1.heap.size + 1) lq).heap[w1.heap.size]? = some (.cells #[.int .i64 W, .int .i64 H, .slice a1 cells.length c1, .bool false] 45 (0, 0)) :=
    (setRow_other _ _ _ _ (by omega)).trans (heap_alloc2_old w1 _ _)
  have hL3 : (((w1.alloc (.cells #[.int .i64 W, .int .i64 H, .slice a1 cells.length c1, .bool false] 45)).alloc (.cells z0 48)).setRow (w1.heap.size + 1) lq).heap[w1.heap.size + 1]? = some (.cells lq 48 (0, 0)) :=
    setRow_heap _ _ z0 _ _ _ (heap_alloc2_new w1 _ _)
  have hb3 : Below w1.heap.size w1 (((w1.alloc (.cells #[.int .i64 W, .int .i64 H, .slice a1 cells.length c1, .bool false] 45)).alloc (.cells z0 48)).setRow (w1.heap.size + 1) lq) :=
    below_setRow (((Below.refl _ _).alloc (Nat.le_refl _) _).alloc (by simp) _) (by omega) _
  generalize ((w1.alloc (.cells #[.int .i64 W, .int .i64 H, .slice a1 cells.length c1, .bool false] 45)).alloc (.cells z0 48)).setRow (w1.heap.size + 1) lq = w3 at *
  have hsz4 : (Tryd.prog.info? 45).map (·.size) = some (#[Value.int .i64 W, .int .i64 H, .slice a1 cells.length c1, .bool false] : Array Value).size := by kernel_rfl
  have hat3 : At w3.drew a1 (byts cells) := (hown1.later hb3).at
  have hS : w3.drew.heap[w1.heap.size]? = some (.cells #[.int .i64 W, .int .i64 H, .slice a1 cells.length c1, .bool false] 45 (0, 0)) ∧ w3.drew.heap[w1.heap.size + 1]? = some (.cells lq 48 (0, 0)) := ⟨hG3, hL3⟩
  refine wp_region_held (S := fun w' => w'.heap[w1.heap.size]? = some (.cells #[.int .i64 W, .int .i64 H, .slice a1 cells.length c1, .bool false] 45 (0, 0)) ∧ w'.heap[w1.heap.size + 1]? = some (.cells lq 48 (0, 0))) (by kernel_rfl) ?_
  change wpAnyH _ _ _ _ _ _ _ _ (World.drew w3)
  refine wpAnyH_take (i := 0) rfl (by kernel_rfl) (by kernel_rfl) (by kernel_rfl) (fun _ _ _ h => h) (yields_row rfl 45 _ rfl w1.heap.size (by rfl) 45 _ (0, 0) _ (fun _ h => h.1) Tryd.underlying45 rfl hsz4) hS ?_
  refine wpAnyH_take (i := 1) rfl (by kernel_rfl) (by kernel_rfl) (by kernel_rfl) (fun _ _ _ h => h) (yields_row rfl 45 _ rfl w1.heap.size (by rfl) 45 _ (0, 0) _ (fun _ h => h.1) Tryd.underlying45 rfl hsz4) hS ?_
  refine wpAnyH_take (i := 2) rfl (by kernel_rfl) (by kernel_rfl) (by kernel_rfl) (fun _ _ _ h => h) (yields_row rfl 48 _ rfl (w1.heap.size + 1) (by rfl) 48 _ (0, 0) _ (fun _ h => h.2) Tryd.underlying48 rfl HSZL.out) hS ?_
  refine wpAnyH_take (i := 5) (v := .bool (clkOK l xs)) rfl (by kernel_rfl) (by kernel_rfl) (by kernel_rfl) (fun _ _ _ h => h) (.inl ⟨by rfl, fun w _ => by rfl⟩) hS ?_
  refine wpAnyH_all (rs := [3]) (by kernel_rfl) (by simp) (fun i hi => ?_)
  obtain rfl : i = 3 := by simpa using hi
  refine wpOp_step rfl (fun K' hK => ?_)
  rw [if_pos (by rfl)]
  go_simp
  refine (HOA.out _ a1 c1 hat3).mono ?_
  rintro e w4 ⟨b, PL, rfl, hM4, hmem, hbl, hb4⟩
  have hsd : w3.drew.heap.size = w1.heap.size + 2 := hs3
  have s4 := hb4.size
  have hS4 : w4.heap[w1.heap.size]? = some (.cells #[.int .i64 W, .int .i64 H, .slice a1 cells.length c1, .bool false] 45 (0, 0)) ∧ w4.heap[w1.heap.size + 1]? = some (.cells lq 48 (0, 0)) := ⟨(hb4.block _ (by omega)).trans hS.1, (hb4.block _ (by omega)).trans hS.2⟩
  refine hK _ _ ⟨hS4, ?_⟩
  clear hK K'
  refine wpAnyH_all (rs := [4]) (by kernel_rfl) (by simp) (fun i hi => ?_)
  obtain rfl : i = 4 := by simpa using hi
  refine wpOp_step rfl (fun K' hK => ?_)
  rw [if_pos (by rfl)]
  go_simp
  refine (pickOpen_any W H a1 cells.length c1 b PL w4 hM4 h64).mono ?_
  rintro e w5 ⟨a5, c5, rfl, hown5, hb5⟩
  rw [HA.out PL hmem, ← HO.out] at hown5 ⊢
  have hS5 : w5.heap[w1.heap.size]? = some (.cells #[.int .i64 W, .int .i64 H, .slice a1 cells.length c1, .bool false] 45 (0, 0)) ∧ w5.heap[w1.heap.size + 1]? = some (.cells lq 48 (0, 0)) := ⟨(hb5.block _ (by omega)).trans hS4.1, (hb5.block _ (by omega)).trans hS4.2⟩
  refine hK _ _ ⟨hS5, ?_⟩
  clear hK K'
  refine wpAnyH_all (rs := [6]) (by kernel_rfl) (by simp) (fun i hi => ?_)
  obtain rfl : i = 6 := by simpa using hi
  refine wpOp_step rfl (fun K' hK => ?_)
  rw [if_pos (by rfl)]
  go_simp
  refine hK _ _ ⟨hS5, ?_⟩
  clear hK K'
  refine wpAnyH_all (rs := [7]) (by kernel_rfl) (by simp) (fun i hi => ?_)
  obtain rfl : i = 7 := by simpa using hi
  refine wpOp_step rfl (fun K' hK => ?_)
  rw [if_pos (by rfl)]
  go_simp
  refine hK _ _ ⟨hS5, ?_⟩
  clear hK K'
  refine wpAnyH_done (by kernel_rfl) ?_ _
  have hbf : Below w.heap.size w w5 := ((hb1.trans (hb3.drew.mono s1)).trans (hb4.mono (by omega))).trans (hb5.mono (by omega))
  go_wp2_with fail
  go_ret2
  exact ⟨a5, c5, rfl, hown5.mono (by omega), hbf⟩
end Go.Proofs.YtndmkbkmfonefadDoor
