/- Opening: the fewest clicks, by the program. -/
import Derived.Test.YtndmkbkmfonefacDoorYJ
import Derived.Shelf.Slices.In.SortNone
import Derived.Sort.OwnSortedInts
import Derived.Lib.OwnBridge
import Derived.Outline
namespace Go.Proofs.YtndmkbkmfonefacDoor
open Go.RowKit

/-- slices.Sort of a row that the call owns. -/
theorem sort_own (v : Value) (zs : List Int) (B : Nat) (w : World) (hown : Owns w B 3 v (ints zs)) (hl : zs.length ≤ 1048576) :
    Calls Tryd.prog 80 #[v] w fun e w' => e = .returned (.tuple #[]) ∧ Owns w' B 3 v (ints (zs.mergeSort fun x y => decide (x ≤ y))) ∧ Below B w w' := by
  have h0 := hown
  rcases hown.2 with ⟨rfl, hn⟩ | ⟨g, cap, cur, rfl, hbg, hb, hnc, hcm, hcs, _⟩
  · have hz : zs = [] := by simpa [ints] using hn
    subst hz
    refine (Any.slices_Sort_int_none Tryd.lays189 none 0 w).mono ?_
    rintro e w' ⟨rfl, rfl⟩
    exact ⟨rfl, by simpa using h0, Below.refl _ _⟩
  · have hown' : w.ownsRow B 3 1 (.slice (some ⟨g, 0, none⟩) zs.length cap) zs.length (zs.map (Value.int .i64)) := by
      have := h0
      unfold Owns at this
      rw [ints_length] at this
      exact this
    obtain ⟨g', cap', hv, _, hlt, _, _, _, hH⟩ := Lib.holds_of_ownsRow hown' (by simp)
    have e1 : g = g' ∧ cap = cap' := by
      simp only [Value.slice.injEq, Option.some.injEq, Addr.mk.injEq] at hv
      exact ⟨hv.1.1, hv.2.2⟩
    obtain ⟨rfl, rfl⟩ := e1
    rw [ints_length] at hnc ⊢
    refine (Tryd.slices_Sort_int g 0 cap zs w hH hlt (by omega)).mono ?_
    rintro e w' ⟨rfl, n, os, rfl⟩
    have hs := ownsRow_sortedI (n := n) (os := os) (ts := zs.mergeSort fun x y => decide (x ≤ y)) (ss := zs) (base := B) (List.length_mergeSort zs) hbg hb hnc hcm hcs
    refine ⟨rfl, ?_, (Below.refl B w).grown (grownBy_sortedI _) (by omega) (fun k hk => by cases hk; exact hbg)⟩
    unfold Owns
    rw [ints_length, List.length_mergeSort]
    exact hs
theorem mergeSort_nats {n : Nat} {xs : List Nat} (hd : xs.Nodup) (hlt : ∀ x ∈ xs, x < n) : ((xs.map Int.ofNat).mergeSort fun x y => decide (x ≤ y)) = (sortM n xs).map Int.ofNat := by
  have hp : ((xs.map Int.ofNat).mergeSort fun x y => decide (x ≤ y)).Perm ((sortM n xs).map Int.ofNat) :=
    (List.mergeSort_perm _ _).trans ((sortM_perm hd hlt).symm.map _)
  refine hp.eq_of_pairwise (le := fun x y : Int => x ≤ y) (fun x y _ _ h1 h2 => by omega) ?_ ?_
  · have := List.pairwise_mergeSort (le := fun x y : Int => decide (x ≤ y)) (fun a b c h1 h2 => by simp at h1 h2 ⊢; omega) (fun a b => by simp; omega) (xs.map Int.ofNat)
    exact this.imp (fun h => by simpa using h)
  · rw [List.pairwise_map]
    exact (sortM_rise n xs).imp (fun h => by have := h; show (Int.ofNat _ : Int) ≤ Int.ofNat _; simp; omega)

theorem zGo_rise (cells : List UInt8) (W : Geo) (s : UInt8) : ∀ (m k : Nat), (zGo cells W s k m).Pairwise (· < ·)
  | 0, _ => List.Pairwise.nil
  | m + 1, k => by
    unfold zGo
    split
    · exact List.pairwise_cons.2 ⟨fun x hx => by have := zGo_lt cells W s m (k + 1) x hx; omega, zGo_rise cells W s m (k + 1)⟩
    · exact zGo_rise cells W s m (k + 1)
theorem fzGo_sub (op : Nat → List Nat) : ∀ (r s : List Nat), (fzGo op r s).Sublist r
  | [], _ => List.Sublist.refl _
  | z :: r, s => by
    unfold fzGo
    split
    · exact (fzGo_sub op r s).cons _
    · exact (fzGo_sub op r _).cons_cons _
theorem firstsM_nodup (cells : List UInt8) (W : Geo) : (firstsM cells W).Nodup :=
  ((zGo_rise cells W 46 cells.length 0).imp (fun h => Nat.ne_of_lt h)).sublist (fzGo_sub _ _ _)
theorem aloneM_rise (cells : List UInt8) (W : Geo) : (aloneM cells W).Pairwise (· < ·) := List.Pairwise.filter _ List.pairwise_lt_range
theorem aloneM_lt (cells : List UInt8) (W : Geo) (x : Nat) (h : x ∈ aloneM cells W) : x < cells.length := by
  simp only [aloneM, filtM, List.mem_filter, List.mem_range] at h
  exact h.1
theorem alone_not_first (cells : List UInt8) (W : Geo) (x : Nat) (h : x ∈ aloneM cells W) : x ∉ firstsM cells W := by
  intro hf
  simp only [aloneM, filtM, List.mem_filter, List.mem_range, aloneB, Bool.and_eq_true] at h
  rw [wiM_zero, List.all_eq_true] at h
  have := h.2.2 (opM cells W x) (by rw [openingsM]; exact List.mem_map.2 ⟨x, hf, rfl⟩)
  have h2 : x ∈ opM cells W x := by
    rw [opM, mem_sortM (bfs_lt (nearM_lts W cells.length) h.1), bfs0_mem (nearM_lts W cells.length) h.1]
    exact .start
  simp [h2] at this
/-- The fewest clicks. -/
def fcM (cells : List UInt8) (W : Geo) : List Nat := sortM cells.length (aloneM cells W ++ firstsM cells W)
theorem fc_nodup (cells : List UInt8) (W : Geo) : (aloneM cells W ++ firstsM cells W).Nodup := by
  rw [List.nodup_append]
  exact ⟨(aloneM_rise cells W).imp (fun h => Nat.ne_of_lt h), firstsM_nodup cells W, fun a ha b hb e => alone_not_first cells W a ha (e ▸ hb)⟩
theorem fc_lt (cells : List UInt8) (W : Geo) : ∀ x ∈ aloneM cells W ++ firstsM cells W, x < cells.length := by
  intro x hx
  rcases List.mem_append.1 hx with h | h
  · exact aloneM_lt cells W x h
  · exact firstsM_lt cells W x h
theorem fcM_le (cells : List UInt8) (W : Geo) : (fcM cells W).length ≤ cells.length := sortM_le _ _

set_option maxRecDepth 100000 in
set_option maxHeartbeats 3200000 in
theorem firstClicksJ_any {J : Bool} (W H : Nat) (a : Option Addr) (cells : List UInt8) (cap : Nat) (w : World) (hat : At w a (byts cells)) (h64 : cells.length ≤ 64) (hw1 : 0 < cells.length → 1 ≤ W) (hJ : J = true → (1 ≤ W ∧ W ≤ 1048576) ∧ (1 ≤ H ∧ H ≤ 1048576)) :
    Calls Tryd.prog 53 #[.agg #[.int .i64 W, .int .i64 H, .slice a cells.length cap, .bool J]] w fun e w' => ∃ a' cap', e = .returned (.slice a' (fcM cells (geoOf J W H)).length cap') ∧ Owns w' w.heap.size 3 (.slice a' (fcM cells (geoOf J W H)).length cap') (nats (fcM cells (geoOf J W H))) ∧ Below w.heap.size w w' := by
  have hal := aloneM_le cells (geoOf J W H)
  have hfl := firstsM_le cells (geoOf J W H)
  have hca := fun (w : World) (h : At w a (byts cells)) => cellsAloneJ_any W H a cells cap w h h64 hw1 hJ
  have HCA := Lib.hid hca
  have hfz := fun (w : World) (h : At w a (byts cells)) => firstZerosJ_any W H a cells cap w h h64 hw1 hJ
  have HFZ := Lib.hid hfz
  have HMS : Hid ((((aloneM cells (geoOf J W H) ++ firstsM cells (geoOf J W H)).map Int.ofNat).mergeSort fun x y => decide (x ≤ y)) = (fcM cells (geoOf J W H)).map Int.ofNat) := mergeSort_nats (fc_nodup cells (geoOf J W H)) (fc_lt cells (geoOf J W H))
  clear hca hfz
  have hb0 : Below w.heap.size w (w.alloc (.cells #[.int .i64 W, .int .i64 H, .slice a cells.length cap, .bool J] 42)) := (Below.refl _ _).alloc (Nat.le_refl _) _
  have hG0 : (w.alloc (.cells #[.int .i64 W, .int .i64 H, .slice a cells.length cap, .bool J] 42)).heap[w.heap.size]? = some (.cells #[.int .i64 W, .int .i64 H, .slice a cells.length cap, .bool J] 42 (0, 0)) := heap_alloc_new w _
  have hs0 : w.heap.size < (w.alloc (.cells #[.int .i64 W, .int .i64 H, .slice a cells.length cap, .bool J] 42)).heap.size := by simp
  generalize fcM cells (geoOf J W H) = fc at *
  generalize aloneM cells (geoOf J W H) = alone at *
  generalize firstsM cells (geoOf J W H) = firsts at *
  go_enter Tryd.func53, Tryd.ntmps53
  go_wp2_with fail
  have hat0 : At (w.alloc (.cells #[.int .i64 W, .int .i64 H, .slice a cells.length cap, .bool J] 42)).drew a (byts cells) := (hat.later rfl hb0).drew
  generalize w.alloc (.cells #[.int .i64 W, .int .i64 H, .slice a cells.length cap, .bool J] 42) = w0 at *
  have hf0 := cell_of_block hG0 0
  have hf1 := cell_of_block hG0 1
  have hf2 := cell_of_block hG0 2
  have hf3 := cell_of_block hG0 3
  simp at hf0 hf1 hf2 hf3
  have HG0 := Lib.hid hG0
  clear hG0
  have hGx : ∀ w5 : World, Below w0.heap.size w0.drew w5 → w5.cell? ⟨w.heap.size, 0, none⟩ = some (.int .i64 W) ∧ w5.cell? ⟨w.heap.size, 1, none⟩ = some (.int .i64 H) ∧ w5.cell? ⟨w.heap.size, 2, none⟩ = some (.slice a cells.length cap) ∧ w5.cell? ⟨w.heap.size, 3, none⟩ = some (.bool J) := by
    intro w5 h
    have hG5 := (h.block _ hs0).trans HG0.out
    have q0 := cell_of_block hG5 0
    have q1 := cell_of_block hG5 1
    have q2 := cell_of_block hG5 2
    have q3 := cell_of_block hG5 3
    simp at q0 q1 q2 q3
    exact ⟨q0, q1, q2, q3⟩
  have HGX := Lib.hid hGx
  clear hGx
  go_region_law (first
    | (refine step_appA rfl _ _ _ (by rfl) w0.heap.size _ _ _ elemInt _ (nats alone) (by rfl) (hown5.later hb6) _ _ _ (nats firsts) (by rfl) (nats_length _) hown6.at (nats_one _) (by simp; omega) (by simp; omega) (by have := hb5.size; have := hb6.size; simp at *; omega) ?_; intro v7 w7 hown7 hb7)
    | (go_simp; go_at_call 51; refine (HCA.out _ (by exact hat0)).mono ?_; rintro e w5 ⟨a5, cap5, rfl, hown5, hb5⟩; obtain ⟨q0, q1, q2, q3⟩ := HGX.out w5 hb5)
    | (go_simp; go_at_call 40; refine (HFZ.out _ (by exact hat0.later rfl hb5)).mono ?_; rintro e w6 ⟨a6, cap6, rfl, hown6, hb6⟩))
  all_goals
    rw [nats_append] at hown7
    have hb5' : Below w0.heap.size w0 w5 := ofDrew hb5
    have hb57 : Below w0.heap.size w0 w7 := hb5'.trans ((hb6.mono hb5'.size).trans hb7)
    clear hown5 hown6 hb5 hb6 hb7 q0 q1 q2 q3
    go_wp2_with fail
    refine (sort_own v7 ((alone ++ firsts).map Int.ofNat) w0.heap.size _ (by exact hown7) (by simp; omega)).mono ?_
    rintro e w8 ⟨rfl, hown8, hb8⟩
    rw [HMS.out] at hown8
    go_wp2_with fail
    go_ret
    obtain ⟨a', cap', hv⟩ := hown8.shape
    simp only [ints_length, List.length_map] at hv
    exact ⟨a', cap', by rw [← hv]; rfl, by rw [← hv]; exact hown8.mono (by omega), (hb0.trans (hb57.mono (by omega))).trans (hb8.mono (by omega))⟩
/-- The same where rows are not joined. -/
theorem firstClicks_any (W H : Nat) (a : Option Addr) (cells : List UInt8) (cap : Nat) (w : World) (hat : At w a (byts cells)) (h64 : cells.length ≤ 64) (hw1 : 0 < cells.length → 1 ≤ W) :
    Calls Tryd.prog 53 #[.agg #[.int .i64 W, .int .i64 H, .slice a cells.length cap, .bool false]] w fun e w' => ∃ a' cap', e = .returned (.slice a' (fcM cells W).length cap') ∧ Owns w' w.heap.size 3 (.slice a' (fcM cells W).length cap') (nats (fcM cells W)) ∧ Below w.heap.size w w' :=
  firstClicksJ_any W H a cells cap w hat h64 hw1 nofun
end Go.Proofs.YtndmkbkmfonefacDoor
