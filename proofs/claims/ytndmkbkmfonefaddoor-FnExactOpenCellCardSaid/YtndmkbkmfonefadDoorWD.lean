/- The view of a board with some cells open: plain lemmas. -/
import Derived.Test.YtndmkbkmfonefadDoorWA
import Derived.Test.YtndmkbkmfonefadDoorW5
import Derived.Test.YtndmkbkmfonefadDoorZ1
import Derived.Outline
namespace Go.Proofs.YtndmkbkmfonefadDoor
open Go.RowKit

theorem near8_all : ∀ W : Nat, W < 9 → ∀ H, H < 9 → ∀ c, c < W * H → (nearM W (W * H) c).length ≤ 8 := by decide +kernel
theorem numM_eight (cells : List UInt8) (W H c : Nat) (hW : W ≤ 8) (hH : H ≤ 8) (hn : cells.length = W * H) (hc : c < cells.length) : numM cells W c ≤ 8 := by
  have h1 := countAt_le cells (nearM W cells.length c)
  have h2 := near8_all W (by omega) H (by omega) c (by omega)
  unfold numM
  rw [hn] at h1 ⊢
  omega
theorem dig_sign {n : Nat} (h : n ≤ 8) : viewSign (digB n) = true ∧ digB n ≠ 63 := by
  have e := digB_nat n (by omega)
  constructor
  · simp [viewSign, digSign, e]; omega
  · intro q
    have := congrArg UInt8.toNat q
    rw [e] at this
    have e2 : (63 : UInt8).toNat = 63 := rfl
    omega
theorem see_signs {cells : List UInt8} {W H : Nat} (op : Nat → Bool) (hW : W ≤ 8) (hH : H ≤ 8) (hn : cells.length = W * H) : ∀ c ∈ seeM cells W op, viewSign c = true := by
  intro c hc
  obtain ⟨k, hk, rfl⟩ := List.mem_map.1 hc
  rw [List.mem_range] at hk
  unfold seeB
  split
  · exact (dig_sign (numM_eight cells W H k hW hH hn hk)).1
  · rfl
theorem see_uns {cells : List UInt8} {W H : Nat} (op : Nat → Bool) (hW : W ≤ 8) (hH : H ≤ 8) (hn : cells.length = W * H) {k : Nat} (hk : k < cells.length) : unsB (seeM cells W op) k = !op k := by
  have e : (seeM cells W op).getD k 0 = seeB cells W op k := by simp [seeM, List.getD, hk]
  rw [unsB, e, seeB]
  cases h : op k with
  | true => rw [if_pos rfl]; simpa using (dig_sign (numM_eight cells W H k hW hH hn hk)).2
  | false => rfl
theorem filt_not (p : Nat → Bool) (n : Nat) : (filtM (fun k => !p k) n).length + (filtM p n).length = n := by
  have h := List.length_eq_countP_add_countP (p := p) (l := List.range n)
  rw [List.length_range] at h
  unfold filtM
  rw [← List.countP_eq_length_filter, ← List.countP_eq_length_filter]
  have e : (fun k => !p k) = fun k => decide ¬ p k = true := by funext k; cases p k <;> rfl
  rw [e]
  omega
/-- Cells that increase, as numbers. -/
theorem rises_pair : ∀ (xs : List Int) (n last : Int), -1 ≤ last → risesM n last xs = true → (xs.map Int.toNat).Pairwise (· < ·) ∧ (∀ x ∈ xs, last < x ∧ x < n)
  | [], _, _, _, _ => ⟨List.Pairwise.nil, by simp⟩
  | x :: r, n, last, hl, h => by
    by_cases hc : last < x ∧ x < n
    · rw [rises_yes hc] at h
      obtain ⟨h1, h2⟩ := rises_pair r n x (by omega) h
      refine ⟨?_, ?_⟩
      · rw [List.map_cons, List.pairwise_cons]
        refine ⟨fun y hy => ?_, h1⟩
        obtain ⟨z, hz, rfl⟩ := List.mem_map.1 hy
        have := h2 z hz
        omega
      · intro y hy
        rcases List.mem_cons.1 hy with rfl | hy
        · exact hc
        · have := h2 y hy; omega
    · rw [rises_no hc] at h; cases h
theorem rises_filt {xs : List Int} {n : Nat} (h : risesM (n : Int) (-1) xs = true) : filtM (fun k => hasI xs k) n = xs.map Int.toNat := by
  obtain ⟨h1, h2⟩ := rises_pair xs n (-1) (by omega) h
  refine rise_ext (List.Pairwise.filter _ List.pairwise_lt_range) h1 (fun x => ?_)
  rw [filtM, List.mem_filter, List.mem_range, List.mem_map]
  constructor
  · rintro ⟨_, hx⟩
    obtain ⟨y, hy, e⟩ := List.any_eq_true.1 hx
    exact ⟨y, hy, by simp at e; omega⟩
  · rintro ⟨y, hy, rfl⟩
    have := h2 y hy
    exact ⟨by omega, List.any_eq_true.2 ⟨y, hy, by simp; omega⟩⟩
theorem hid_see {cells : List UInt8} {W H : Nat} {xs : List Int} (hW : W ≤ 8) (hH : H ≤ 8) (hn : cells.length = W * H) (h : risesM (cells.length : Int) (-1) xs = true) :
    (hidM (seeM cells W (fun k => hasI xs k))).length + xs.length = cells.length := by
  have e1 : hidM (seeM cells W (fun k => hasI xs k)) = filtM (fun k => !hasI xs (k : Nat)) cells.length := by
    rw [hidM, seeM_length, filtM, filtM]
    apply List.filter_congr
    intro k hk
    rw [List.mem_range] at hk
    exact see_uns _ hW hH hn hk
  have e2 := filt_not (fun k => hasI xs (k : Nat)) cells.length
  rw [rises_filt h, List.length_map] at e2
  rw [e1]
  exact e2

/-- Whether a board and its open cells give a view; the view. -/
def noMine (cells : List UInt8) (xs : List Int) : Bool := xs.all fun x => !(cells.getD x.toNat 0 == 42)
def voOK (l : List UInt8) (xs : List Int) : Bool := boGoodM l && risesM ((gCells l).length : Int) (-1) xs && decide ((gCells l).length ≤ xs.length + 14) && noMine (gCells l) xs
def voM (l : List UInt8) (xs : List Int) : List UInt8 := if voOK l xs = true then textM (seeM (gCells l) (gW l) (fun k => hasI xs k)) (gW l) (gH l) else []
theorem vo_no {l : List UInt8} {xs : List Int} (h : voOK l xs = false) : voM l xs = [] := by rw [voM, h]; rfl
end Go.Proofs.YtndmkbkmfonefadDoor
