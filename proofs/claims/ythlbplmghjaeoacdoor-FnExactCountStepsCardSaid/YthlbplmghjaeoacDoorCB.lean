/- Notes: a list of unknown cells, by the program; signs put in them. -/
import Derived.Test.YthlbplmghjaeoacDoorCA
import Derived.Test.YthlbplmghjaeoacDoorZ1
import Derived.Outline
namespace Go.Proofs.YthlbplmghjaeoacDoor
open Go.RowKit

/-- The members of one set that are none of another. -/
def andN (a b : Nat) : Nat := a &&& (18446744073709551615 - b)
theorem andN_bit (a b i : Nat) (ha : a < 18446744073709551616) (hb : b < 18446744073709551616) : (andN a b).testBit i = (a.testBit i && !b.testBit i) := by
  have e : 18446744073709551615 - b = 2 ^ 64 - (b + 1) := by omega
  have hb' : b < 2 ^ 64 := hb
  rw [andN, Nat.testBit_and, e, Nat.testBit_two_pow_sub_succ hb']
  by_cases hi : i < 64
  · simp [hi]
  · have : a.testBit i = false := Nat.testBit_lt_two_pow (Nat.lt_of_lt_of_le ha (show 2 ^ 64 ≤ 2 ^ i from Nat.pow_le_pow_right (by decide) (by omega)))
    simp [this]
theorem andN_mask {xs ys : List Nat} (hx : ∀ c ∈ xs, c < 64) (hy : ∀ c ∈ ys, c < 64) : andN (maskM xs) (maskM ys) = maskM (xs.filter fun x => !decide (x ∈ ys)) := by
  apply Nat.eq_of_testBit_eq
  intro i
  rw [andN_bit _ _ _ (maskM_lt _ hx) (maskM_lt _ hy), maskM_bit, maskM_bit, maskM_bit]
  by_cases h1 : i ∈ xs <;> by_cases h2 : i ∈ ys <;> simp [h1, h2]
theorem u64_andN {xs ys : List Nat} (hx : ∀ c ∈ xs, c < 64) (hy : ∀ c ∈ ys, c < 64) : bits .andNot .u64 (maskM xs : Nat) (maskM ys : Nat) = ((maskM (xs.filter fun x => !decide (x ∈ ys)) : Nat) : Int) := by
  rw [u64_andNot_nat _ _ (maskM_lt _ hx) (maskM_lt _ hy), ← andN_mask hx hy, andN]
theorem maskM_zero {xs : List Nat} (hx : ∀ c ∈ xs, c < 64) : maskM xs = 0 ↔ xs = [] := by
  constructor
  · intro h
    cases xs with
    | nil => rfl
    | cons x r =>
      have := maskM_bit (x :: r) x
      rw [h, Nat.zero_testBit] at this
      simp at this
  · rintro rfl; rfl
theorem noteL_nil (cells : List UInt8) (s : UInt8) : noteL cells [] s = cells := by
  rw [← setAll_note]; rfl

theorem rises_nat {n : Int} : ∀ (xs : List Int) (last : Int), -1 ≤ last → risesM n last xs = true → (xs.map Int.toNat).map Int.ofNat = xs ∧ (xs.map Int.toNat).Pairwise (· < ·) ∧ ∀ x ∈ xs, last < x ∧ x < n
  | [], _, _, _ => ⟨rfl, List.Pairwise.nil, fun _ h => by cases h⟩
  | y :: r, last, hl, hr => by
    by_cases h : last < y ∧ y < n
    · rw [rises_yes h] at hr
      obtain ⟨h1, h2, h3⟩ := rises_nat r y (by omega) hr
      refine ⟨?_, ?_, ?_⟩
      · rw [List.map_cons, List.map_cons, h1]
        have : Int.ofNat y.toNat = y := by show ((y.toNat : Nat) : Int) = y; omega
        rw [this]
      · rw [List.map_cons]
        refine List.pairwise_cons.2 ⟨fun z hz => ?_, h2⟩
        obtain ⟨x, hx, rfl⟩ := List.mem_map.1 hz
        have := h3 x hx
        omega
      · intro x hx
        rcases List.mem_cons.1 hx with rfl | hx
        · exact h
        · have := h3 x hx; exact ⟨by omega, this.2⟩
    · rw [rises_no h] at hr; cases hr

/-- Are there notes and a list of unknown cells of them? -/
def nuRise (l : List UInt8) (xs : List Int) : Bool := gridM noteSign l && risesM (grC noteSign l).length (-1) xs
def nuAll (l : List UInt8) (xs : List Int) : Bool := xs.all fun x => unsB (grC noteSign l) x.toNat
def nuOK (l : List UInt8) (xs : List Int) : Bool := nuRise l xs && nuAll l xs
def nuW (l : List UInt8) (xs : List Int) : Nat := if nuOK l xs = true then grW noteSign l else 0
def nuH (l : List UInt8) (xs : List Int) : Nat := if nuOK l xs = true then grH noteSign l else 0
def nuC (l : List UInt8) (xs : List Int) : List UInt8 := if nuOK l xs = true then grC noteSign l else []
def nuX (l : List UInt8) (xs : List Int) : List Nat := if nuOK l xs = true then xs.map Int.toNat else []
def nuM (l : List UInt8) (xs : List Int) (s : UInt8) : List UInt8 := textM (noteL (nuC l xs) (nuX l xs) s) (nuW l xs) (nuH l xs)
theorem nu_no {l : List UInt8} {xs : List Int} (h : nuOK l xs = false) : nuW l xs = 0 ∧ nuH l xs = 0 ∧ nuC l xs = [] ∧ nuX l xs = [] ∧ ∀ s, nuM l xs s = [] := by
  have e1 : nuW l xs = 0 := by rw [nuW, h]; rfl
  have e2 : nuH l xs = 0 := by rw [nuH, h]; rfl
  have e3 : nuC l xs = [] := by rw [nuC, h]; rfl
  have e4 : nuX l xs = [] := by rw [nuX, h]; rfl
  exact ⟨e1, e2, e3, e4, fun s => by rw [nuM, e1, e2, e3, e4]; rfl⟩
theorem nu_yes {l : List UInt8} {xs : List Int} (h : nuOK l xs = true) : nuW l xs = grW noteSign l ∧ nuH l xs = grH noteSign l ∧ nuC l xs = grC noteSign l ∧ nuX l xs = xs.map Int.toNat := by
  refine ⟨?_, ?_, ?_, ?_⟩
  · rw [nuW, if_pos h]
  · rw [nuH, if_pos h]
  · rw [nuC, if_pos h]
  · rw [nuX, if_pos h]
theorem nu_rise {l : List UInt8} {xs : List Int} (h : nuRise l xs = true) : gridM noteSign l = true ∧ (xs.map Int.toNat).map Int.ofNat = xs ∧ Cel (grC noteSign l).length (xs.map Int.toNat) := by
  rw [nuRise, Bool.and_eq_true] at h
  obtain ⟨h1, h2, h3⟩ := rises_nat xs (-1) (Int.le_refl _) h.2
  refine ⟨h.1, h1, h2, fun x hx => ?_⟩
  obtain ⟨y, hy, rfl⟩ := List.mem_map.1 hx
  have := h3 y hy
  omega
theorem nu_cel (l : List UInt8) (xs : List Int) : Cel (nuC l xs).length (nuX l xs) := by
  cases h : nuOK l xs with
  | true =>
    obtain ⟨_, _, e3, e4⟩ := nu_yes h
    rw [nuOK, Bool.and_eq_true] at h
    rw [e3, e4]
    exact (nu_rise h.1).2.2
  | false =>
    obtain ⟨_, _, e3, e4, _⟩ := nu_no h
    rw [e3, e4]
    exact Cel.nil _
theorem nu_size (l : List UInt8) (xs : List Int) : ((nuW l xs = 0 ∧ nuH l xs = 0) ∨ ((1 ≤ nuW l xs ∧ nuW l xs ≤ 8) ∧ (1 ≤ nuH l xs ∧ nuH l xs ≤ 8))) ∧ (nuC l xs).length = nuW l xs * nuH l xs := by
  cases h : nuOK l xs with
  | true =>
    obtain ⟨e1, e2, e3, _⟩ := nu_yes h
    rw [e1, e2, e3]
    exact ⟨grSize _ _, grC_len _ _⟩
  | false =>
    obtain ⟨e1, e2, e3, _⟩ := nu_no h
    rw [e1, e2, e3]
    exact ⟨.inl ⟨rfl, rfl⟩, rfl⟩
theorem nu_all {l : List UInt8} {xs : List Int} (hc : Cel (grC noteSign l).length (xs.map Int.toNat)) : nuAll l xs = decide ((xs.map Int.toNat).filter (fun x => !decide (x ∈ hidM (grC noteSign l))) = []) := by
  apply Bool.eq_iff_iff.2
  rw [nuAll, List.all_eq_true, decide_eq_true_iff, List.filter_eq_nil_iff]
  have hm : ∀ x : Nat, x < (grC noteSign l).length → (x ∈ hidM (grC noteSign l) ↔ unsB (grC noteSign l) x = true) := fun x hx => by
    rw [hidM, filtM, List.mem_filter, List.mem_range]
    exact ⟨fun h => h.2, fun h => ⟨hx, h⟩⟩
  constructor
  · intro h x hx
    have hxl := hc.lt x hx
    obtain ⟨y, hy, rfl⟩ := List.mem_map.1 hx
    have := (hm _ hxl).2 (h y hy)
    simp [this]
  · intro h y hy
    have hx : y.toNat ∈ xs.map Int.toNat := List.mem_map.2 ⟨y, hy, rfl⟩
    have := h _ hx
    exact (hm _ (hc.lt _ hx)).1 (by simpa using this)

end Go.Proofs.YthlbplmghjaeoacDoor
