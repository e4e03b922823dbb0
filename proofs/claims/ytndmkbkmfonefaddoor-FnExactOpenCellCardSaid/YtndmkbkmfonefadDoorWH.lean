/- Views that boards fit: plain lemmas. -/
import Derived.Test.YtndmkbkmfonefadDoorWG
import Derived.Test.YtndmkbkmfonefadDoorWD
import Derived.Outline
namespace Go.Proofs.YtndmkbkmfonefadDoor
open Go.RowKit

theorem land_bit (a b x y : Nat) (hx : x < 2) (hy : y < 2) : (2 * a + x) &&& (2 * b + y) = 2 * (a &&& b) + (if x = 1 ∧ y = 1 then 1 else 0) := by
  apply Nat.eq_of_testBit_eq
  intro i
  cases i with
  | zero =>
    rw [Nat.testBit_and, Nat.testBit_zero, Nat.testBit_zero, Nat.testBit_zero]
    have e1 : (2 * a + x) % 2 = x := by omega
    have e2 : (2 * b + y) % 2 = y := by omega
    rw [e1, e2]
    by_cases h : x = 1 ∧ y = 1
    · rw [if_pos h, h.1, h.2]
      have : (2 * (a &&& b) + 1) % 2 = 1 := by omega
      rw [this]; rfl
    · rw [if_neg h]
      have : (2 * (a &&& b) + 0) % 2 = 0 := by omega
      rw [this]
      have h2 : ¬ (x = 1 ∧ y = 1) := h
      by_cases hx1 : x = 1
      · have : ¬ y = 1 := fun q => h2 ⟨hx1, q⟩
        simp [hx1, this]
      · simp [hx1]
  | succ i =>
    rw [Nat.testBit_and, Nat.testBit_succ, Nat.testBit_succ, Nat.testBit_succ]
    have e1 : (2 * a + x) / 2 = a := by omega
    have e2 : (2 * b + y) / 2 = b := by omega
    have e3 : (2 * (a &&& b) + (if x = 1 ∧ y = 1 then 1 else 0)) / 2 = a &&& b := by split <;> omega
    rw [e1, e2, e3, Nat.testBit_and]
theorem setM_and (p q : Nat → Bool) (hs : List Nat) : setM p hs &&& setM q hs = setM (fun c => p c && q c) hs := by
  rw [← List.reverse_reverse hs]
  generalize hs.reverse = r
  induction r with
  | nil => simp [setM]
  | cons c r ih =>
    rw [List.reverse_cons, setM_snoc, setM_snoc, setM_snoc, land_bit _ _ _ _ (by split <;> omega) (by split <;> omega), ih]
    congr 1
    cases p c <;> cases q c <;> rfl
theorem pop_snoc (s b : Nat) (hs : s < 8192) (hb : b < 2) : pop14 (2 * s + b) = pop14 s + b := by
  have h2 : ∀ m, (2 * s + b) / (2 * m) = s / m := fun m => by rw [← Nat.div_div_eq_div_mul]; congr 1; omega
  have e0 : (2 * s + b) % 2 = b := by omega
  have e1 : (2 * s + b) / 2 = s := by omega
  have z : s / 8192 % 2 = 0 := by rw [Nat.div_eq_of_lt hs]
  unfold pop14
  rw [e0, e1, z, show (4 : Nat) = 2 * 2 from rfl, h2, show (8 : Nat) = 2 * 4 from rfl, h2, show (16 : Nat) = 2 * 8 from rfl, h2, show (32 : Nat) = 2 * 16 from rfl, h2, show (64 : Nat) = 2 * 32 from rfl, h2, show (128 : Nat) = 2 * 64 from rfl, h2, show (256 : Nat) = 2 * 128 from rfl, h2, show (512 : Nat) = 2 * 256 from rfl, h2, show (1024 : Nat) = 2 * 512 from rfl, h2, show (2048 : Nat) = 2 * 1024 from rfl, h2, show (4096 : Nat) = 2 * 2048 from rfl, h2, show (8192 : Nat) = 2 * 4096 from rfl, h2]
  simp only [Nat.add_zero]
  ac_rfl
theorem pop_setM (p : Nat → Bool) (hs : List Nat) (h : hs.length ≤ 14) : pop14 (setM p hs) = (hs.filter p).length := by
  rw [← List.reverse_reverse hs] at h ⊢
  generalize hs.reverse = r at *
  induction r with
  | nil => simp [setM, pop14]
  | cons c r ih =>
    have hl : r.reverse.length ≤ 13 := by simp at h ⊢; omega
    have hlt : setM p r.reverse < 8192 := Nat.lt_of_lt_of_le (setM_lt p _) (Nat.le_trans (Nat.pow_le_pow_right (by decide) hl) (by decide))
    rw [List.reverse_cons, setM_snoc, pop_snoc _ _ hlt (by split <;> omega), ih (by omega), List.filter_append, List.length_append]
    cases hp : p c <;> simp [hp]

theorem nearGo_filter (W c : Nat) : ∀ (m k : Nat), nearGo W c k m = (List.range' k m).filter (nbW W c)
  | 0, _ => rfl
  | m + 1, k => by
    rw [nearGo, List.range'_succ, List.filter_cons, nearGo_filter W c m (k + 1)]
theorem nearM_filter (W n c : Nat) : nearM W n c = filtM (nbW W c) n := by
  rw [nearM, nearGo_filter, filtM, List.range_eq_range']
theorem countAt_filter (cells : List UInt8) : ∀ l : List Nat, countAt cells l = (l.filter fun k => cells.getD k 0 == 42).length
  | [] => rfl
  | k :: l => by
    rw [countAt, List.filter_cons, countAt_filter cells l]
    by_cases h : cells.getD k 0 = 42
    · rw [if_pos h, if_pos (by simpa using h), List.length_cons]
    · rw [if_neg h, if_neg (by simpa using h)]

/-- How many hidden neighbours of a cell a set has. -/
def numV (cells : List UInt8) (W : Nat) (p : Nat → Bool) (k : Nat) : Nat := ((hidM cells).filter fun h => p h && nbW W k h).length
theorem numV_le {cells : List UInt8} {W H : Nat} (p : Nat → Bool) {k : Nat} (hW : W ≤ 8) (hH : H ≤ 8) (hn : cells.length = W * H) (hk : k < cells.length) : numV cells W p k ≤ 8 := by
  have h8 := near8_all W (by omega) H (by omega) k (by omega)
  rw [← hn, nearM_filter] at h8
  refine Nat.le_trans ?_ h8
  unfold numV hidM filtM
  rw [List.filter_filter]
  rw [← List.countP_eq_length_filter, ← List.countP_eq_length_filter]
  exact List.countP_mono_left (fun x _ h => by simp only [Bool.and_eq_true] at h; exact h.1.2)
/-- Whether all open cells tell their numbers. -/
def fitsM (cells : List UInt8) (W : Nat) (p : Nat → Bool) : Bool := (List.range cells.length).all fun k => !digSign (cells.getD k 0) || (cells.getD k 0 == digB (numV cells W p k))
/-- Whether a board's cells fit a view's, as the model asks. -/
def viFitsM (vc bc : List UInt8) (W : Nat) : Bool := (List.range vc.length).all fun k => (vc.getD k 0 == 63) || (!(bc.getD k 0 == 42) && (numM bc W k == (vc.getD k 0).toNat - 48))

theorem mines_count (bc : List UInt8) : (places 42 bc).length = (filtM (fun k => bc.getD k 0 == 42) bc.length).length := by
  congr 1
  refine rise_ext (placesGo_rise 42 bc 0).1 (List.Pairwise.filter _ List.pairwise_lt_range) (fun x => ?_)
  rw [places, mem_placesGo, filtM, List.mem_filter, List.mem_range]
  constructor
  · rintro ⟨_, h⟩
    rw [Nat.sub_zero] at h
    obtain ⟨hx, he⟩ := List.getElem?_eq_some_iff.1 h
    exact ⟨hx, by simp [List.getD, hx, he]⟩
  · rintro ⟨hx, h⟩
    refine ⟨Nat.zero_le _, ?_⟩
    rw [Nat.sub_zero, List.getElem?_eq_getElem hx]
    simpa [List.getD, hx] using h
theorem filt_sub {n : Nat} {p q : Nat → Bool} (h : ((List.range n).filter fun k => p k && q k).length = ((List.range n).filter q).length) : ∀ k, k < n → q k = true → p k = true := by
  intro k hk hq
  have hs : (List.range n).filter (fun k => p k && q k) = ((List.range n).filter q).filter p := by rw [List.filter_filter]
  rw [hs] at h
  have := List.length_filter_eq_length_iff.1 h k (List.mem_filter.2 ⟨List.mem_range.2 hk, hq⟩)
  exact this
end Go.Proofs.YtndmkbkmfonefadDoor
