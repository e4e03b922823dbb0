/- Opening: the fewest clicks, by the program. -/
import Derived.Test.YtndmkbkmfonefabDoorYJ
import Derived.Shelf.Slices.In.SortNone
import Derived.Sort.OwnSortedInts
import Derived.Lib.OwnBridge
import Derived.Outline
namespace Go.Proofs.YtndmkbkmfonefabDoor
open Go.RowKit

/-- slices.Sort of a row that the call owns. -/
theorem sort_own (v : Value) (zs : List Int) (B : Nat) (w : World) (hown : Owns w B 3 v (ints zs)) (hl : zs.length ≤ 1048576) :
    Calls Tryd.prog 96 #[v] w fun e w' => e = .returned (.tuple #[]) ∧ Owns w' B 3 v (ints (zs.mergeSort fun x y => decide (x ≤ y))) ∧ Below B w w' := by
  have h0 := hown
  rcases hown.2 with ⟨rfl, hn⟩ | ⟨g, cap, cur, rfl, hbg, hb, hnc, hcm, hcs, _⟩
  · have hz : zs = [] := by simpa [ints] using hn
    subst hz
    refine (Any.slices_Sort_int_none Tryd.lays189 none 0 w).mono ?_
    rintro e w' ⟨rfl, rfl⟩
    exact ⟨rfl, by simpa using h0, Below.refl _ _⟩
  · have hown' : w.ownsRow B 3 1 (.slice (some ⟨g, 0, none⟩) zs.length cap) zs.length (zs.map (Value.int .i64)) := by
      have := h0
      unfold Owns at this
      rw [ints_length] at this
      exact this
    obtain ⟨g', cap', hv, _, hlt, _, _, _, hH⟩ := Lib.holds_of_ownsRow hown' (by simp)
    have e1 : g = g' ∧ cap = cap' := by
      simp only [Value.slice.injEq, Option.some.injEq, Addr.mk.injEq] at hv
      exact ⟨hv.1.1, hv.2.2⟩
    obtain ⟨rfl, rfl⟩ := e1
    rw [ints_length] at hnc ⊢
    refine (Tryd.slices_Sort_int g 0 cap zs w hH hlt (by omega)).mono ?_
    rintro e w' ⟨rfl, n, os, rfl⟩
    have hs := ownsRow_sortedI (n := n) (os := os) (ts := zs.mergeSort fun x y => decide (x ≤ y)) (ss := zs) (base := B) (List.length_mergeSort zs) hbg hb hnc hcm hcs
    refine ⟨rfl, ?_, (Below.refl B w).grown (grownBy_sortedI _) (by omega) (fun k hk => by cases hk; exact hbg)⟩
    unfold Owns
    rw [ints_length, List.length_mergeSort]
    exact hs
theorem mergeSort_nats {n : Nat} {xs : List Nat} (hd : xs.Nodup) (hlt : ∀ x ∈ xs, x < n) : ((xs.map Int.ofNat).mergeSort fun x y => decide (x ≤ y)) = (sortM n xs).map Int.ofNat := by
  have hp : ((xs.map Int.ofNat).mergeSort fun x y => decide (x ≤ y)).Perm ((sortM n xs).map Int.ofNat) :=
    (List.mergeSort_perm _ _).trans ((sortM_perm hd hlt).symm.map _)
  refine hp.eq_of_pairwise (le := fun x y : Int => x ≤ y) (fun x y _ _ h1 h2 => by omega) ?_ ?_
  · have := List.pairwise_mergeSort (le := fun x y : Int => decide (x ≤ y)) (fun a b c h1 h2 => by simp at h1 h2 ⊢; omega) (fun a b => by simp; omega) (xs.map Int.ofNat)
    exact this.imp (fun h => by simpa using h)
  · rw [List.pairwise_map]
    exact (sortM_rise n xs).imp (fun h => by have := h; show (Int.ofNat _ : Int) ≤ Int.ofNat _; simp; omega)

theorem zGo_rise (cells : List UInt8) (W : Geo) (s : UInt8) : ∀ (m k : Nat), (zGo cells W s k m).Pairwise (· < ·)
  | 0, _ => List.Pairwise.nil
  | m + 1, k => by
    unfold zGo
    split
    · exact List.pairwise_cons.2 ⟨fun x hx => by have := zGo_lt cells W s m (k + 1) x hx; omega, zGo_rise cells W s m (k + 1)⟩
    · exact zGo_rise cells W s m (k + 1)
theorem fzGo_sub (op : Nat → List Nat) : ∀ (r s : List Nat), (fzGo op r s).Sublist r
  | [], _ => List.Sublist.refl _
  | z :: r, s => by
    unfold fzGo
    split
    · exact (fzGo_sub op r s).cons _
    · exact (fzGo_sub op r _).cons_cons _
theorem firstsM_nodup (cells : List UInt8) (W : Geo) : (firstsM cells W).Nodup :=
  ((zGo_rise cells W 46 cells.length 0).imp (fun h => Nat.ne_of_lt h)).sublist (fzGo_sub _ _ _)
theorem aloneM_rise (cells : List UInt8) (W : Geo) : (aloneM cells W).Pairwise (· < ·) := List.Pairwise.filter _ List.pairwise_lt_range
theorem aloneM_lt (cells : List UInt8) (W : Geo) (x : Nat) (h : x ∈ aloneM cells W) : x < cells.length := by
  simp only [aloneM, filtM, List.mem_filter, List.mem_range] at h
  exact h.1
theorem alone_not_first (cells : List UInt8) (W : Geo) (x : Nat) (h : x ∈ aloneM cells W) : x ∉ firstsM cells W := by
  intro hf
  simp only [aloneM, filtM, List.mem_filter, List.mem_range, aloneB, Bool.and_eq_true] at h
  rw [wiM_zero, List.all_eq_true] at h
  have := h.2.2 (opM cells W x) (by rw [openingsM]; exact List.mem_map.2 ⟨x, hf, rfl⟩)
  have h2 : x ∈ opM cells W x := by
    rw [opM, mem_sortM (bfs_lt (nearM_lts W cells.length) h.1), bfs0_mem (nearM_lts W cells.length) h.1]
    exact .start
  simp [h2] at this
/-- The fewest clicks. -/
def fcM (cells : List UInt8) (W : Geo) : List Nat := sortM cells.length (aloneM cells W ++ firstsM cells W)
theorem fc_nodup (cells : List UInt8) (W : Geo) : (aloneM cells W ++ firstsM cells W).Nodup := by
  rw [List.nodup_append]
  exact ⟨(aloneM_rise cells W).imp (fun h => Nat.ne_of_lt h), firstsM_nodup cells W, fun a ha b hb e => alone_not_first cells W a ha (e ▸ hb)⟩
theorem fc_lt (cells : List UInt8) (W : Geo) : ∀ x ∈ aloneM cells W ++ firstsM cells W, x < cells.length := by
  intro x hx
  rcases List.mem_append.1 hx with h | h
  · exact aloneM_lt cells W x h
  · exact firstsM_lt cells W x h
theorem fcM_le (cells : List UInt8) (W : Geo) : (fcM cells W).length ≤ cells.length := sortM_le _ _

end Go.Proofs.YtndmkbkmfonefabDoor
