/- Notes: a list of unknown cells, by the program; signs put in them. -/
import Derived.Test.YthlbplmghjaeoabDoorCA
import Derived.Test.YthlbplmghjaeoabDoorZ1
import Derived.Outline
namespace Go.Proofs.YthlbplmghjaeoabDoor
open Go.RowKit

/-- The members of one set that are none of another. -/
def andN (a b : Nat) : Nat := a &&& (18446744073709551615 - b)
theorem andN_bit (a b i : Nat) (ha : a < 18446744073709551616) (hb : b < 18446744073709551616) : (andN a b).testBit i = (a.testBit i && !b.testBit i) := by
  have e : 18446744073709551615 - b = 2 ^ 64 - (b + 1) := by omega
  have hb' : b < 2 ^ 64 := hb
  rw [andN, Nat.testBit_and, e, Nat.testBit_two_pow_sub_succ hb']
  by_cases hi : i < 64
  · simp [hi]
  · have : a.testBit i = false := Nat.testBit_lt_two_pow (Nat.lt_of_lt_of_le ha (show 2 ^ 64 ≤ 2 ^ i from Nat.pow_le_pow_right (by decide) (by omega)))
    simp [this]
theorem andN_mask {xs ys : List Nat} (hx : ∀ c ∈ xs, c < 64) (hy : ∀ c ∈ ys, c < 64) : andN (maskM xs) (maskM ys) = maskM (xs.filter fun x => !decide (x ∈ ys)) := by
  apply Nat.eq_of_testBit_eq
  intro i
  rw [andN_bit _ _ _ (maskM_lt _ hx) (maskM_lt _ hy), maskM_bit, maskM_bit, maskM_bit]
  by_cases h1 : i ∈ xs <;> by_cases h2 : i ∈ ys <;> simp [h1, h2]
theorem u64_andN {xs ys : List Nat} (hx : ∀ c ∈ xs, c < 64) (hy : ∀ c ∈ ys, c < 64) : bits .andNot .u64 (maskM xs : Nat) (maskM ys : Nat) = ((maskM (xs.filter fun x => !decide (x ∈ ys)) : Nat) : Int) := by
  rw [u64_andNot_nat _ _ (maskM_lt _ hx) (maskM_lt _ hy), ← andN_mask hx hy, andN]
theorem maskM_zero {xs : List Nat} (hx : ∀ c ∈ xs, c < 64) : maskM xs = 0 ↔ xs = [] := by
  constructor
  · intro h
    cases xs with
    | nil => rfl
    | cons x r =>
      have := maskM_bit (x :: r) x
      rw [h, Nat.zero_testBit] at this
      simp at this
  · rintro rfl; rfl
theorem noteL_nil (cells : List UInt8) (s : UInt8) : noteL cells [] s = cells := by
  rw [← setAll_note]; rfl

theorem rises_nat {n : Int} : ∀ (xs : List Int) (last : Int), -1 ≤ last → risesM n last xs = true → (xs.map Int.toNat).map Int.ofNat = xs ∧ (xs.map Int.toNat).Pairwise (· < ·) ∧ ∀ x ∈ xs, last < x ∧ x < n
  | [], _, _, _ => ⟨rfl, List.Pairwise.nil, fun _ h => by cases h⟩
  | y :: r, last, hl, hr => by
    by_cases h : last < y ∧ y < n
    · rw [rises_yes h] at hr
      obtain ⟨h1, h2, h3⟩ := rises_nat r y (by omega) hr
      refine ⟨?_, ?_, ?_⟩
      · rw [List.map_cons, List.map_cons, h1]
        have : Int.ofNat y.toNat = y := by show ((y.toNat : Nat) : Int) = y; omega
        rw [this]
      · rw [List.map_cons]
        refine List.pairwise_cons.2 ⟨fun z hz => ?_, h2⟩
        obtain ⟨x, hx, rfl⟩ := List.mem_map.1 hz
        have := h3 x hx
        omega
      · intro x hx
        rcases List.mem_cons.1 hx with rfl | hx
        · exact h
        · have := h3 x hx; exact ⟨by omega, this.2⟩
    · rw [rises_no h] at hr; cases hr

/-- Are there notes and a list of unknown cells of them? -/
def nuRise (l : List UInt8) (xs : List Int) : Bool := gridM noteSign l && risesM (grC noteSign l).length (-1) xs
def nuAll (l : List UInt8) (xs : List Int) : Bool := xs.all fun x => unsB (grC noteSign l) x.toNat
def nuOK (l : List UInt8) (xs : List Int) : Bool := nuRise l xs && nuAll l xs
def nuW (l : List UInt8) (xs : List Int) : Nat := if nuOK l xs = true then grW noteSign l else 0
def nuH (l : List UInt8) (xs : List Int) : Nat := if nuOK l xs = true then grH noteSign l else 0
def nuC (l : List UInt8) (xs : List Int) : List UInt8 := if nuOK l xs = true then grC noteSign l else []
def nuX (l : List UInt8) (xs : List Int) : List Nat := if nuOK l xs = true then xs.map Int.toNat else []
def nuM (l : List UInt8) (xs : List Int) (s : UInt8) : List UInt8 := textM (noteL (nuC l xs) (nuX l xs) s) (nuW l xs) (nuH l xs)
theorem nu_no {l : List UInt8} {xs : List Int} (h : nuOK l xs = false) : nuW l xs = 0 ∧ nuH l xs = 0 ∧ nuC l xs = [] ∧ nuX l xs = [] ∧ ∀ s, nuM l xs s = [] := by
  have e1 : nuW l xs = 0 := by rw [nuW, h]; rfl
  have e2 : nuH l xs = 0 := by rw [nuH, h]; rfl
  have e3 : nuC l xs = [] := by rw [nuC, h]; rfl
  have e4 : nuX l xs = [] := by rw [nuX, h]; rfl
  exact ⟨e1, e2, e3, e4, fun s => by rw [nuM, e1, e2, e3, e4]; rfl⟩
theorem nu_yes {l : List UInt8} {xs : List Int} (h : nuOK l xs = true) : nuW l xs = grW noteSign l ∧ nuH l xs = grH noteSign l ∧ nuC l xs = grC noteSign l ∧ nuX l xs = xs.map Int.toNat := by
  refine ⟨?_, ?_, ?_, ?_⟩
  · rw [nuW, if_pos h]
  · rw [nuH, if_pos h]
  · rw [nuC, if_pos h]
  · rw [nuX, if_pos h]
theorem nu_rise {l : List UInt8} {xs : List Int} (h : nuRise l xs = true) : gridM noteSign l = true ∧ (xs.map Int.toNat).map Int.ofNat = xs ∧ Cel (grC noteSign l).length (xs.map Int.toNat) := by
  rw [nuRise, Bool.and_eq_true] at h
  obtain ⟨h1, h2, h3⟩ := rises_nat xs (-1) (Int.le_refl _) h.2
  refine ⟨h.1, h1, h2, fun x hx => ?_⟩
  obtain ⟨y, hy, rfl⟩ := List.mem_map.1 hx
  have := h3 y hy
  omega
theorem nu_cel (l : List UInt8) (xs : List Int) : Cel (nuC l xs).length (nuX l xs) := by
  cases h : nuOK l xs with
  | true =>
    obtain ⟨_, _, e3, e4⟩ := nu_yes h
    rw [nuOK, Bool.and_eq_true] at h
    rw [e3, e4]
    exact (nu_rise h.1).2.2
  | false =>
    obtain ⟨_, _, e3, e4, _⟩ := nu_no h
    rw [e3, e4]
    exact Cel.nil _
theorem nu_size (l : List UInt8) (xs : List Int) : ((nuW l xs = 0 ∧ nuH l xs = 0) ∨ ((1 ≤ nuW l xs ∧ nuW l xs ≤ 8) ∧ (1 ≤ nuH l xs ∧ nuH l xs ≤ 8))) ∧ (nuC l xs).length = nuW l xs * nuH l xs := by
  cases h : nuOK l xs with
  | true =>
    obtain ⟨e1, e2, e3, _⟩ := nu_yes h
    rw [e1, e2, e3]
    exact ⟨grSize _ _, grC_len _ _⟩
  | false =>
    obtain ⟨e1, e2, e3, _⟩ := nu_no h
    rw [e1, e2, e3]
    exact ⟨.inl ⟨rfl, rfl⟩, rfl⟩
theorem nu_all {l : List UInt8} {xs : List Int} (hc : Cel (grC noteSign l).length (xs.map Int.toNat)) : nuAll l xs = decide ((xs.map Int.toNat).filter (fun x => !decide (x ∈ hidM (grC noteSign l))) = []) := by
  apply Bool.eq_iff_iff.2
  rw [nuAll, List.all_eq_true, decide_eq_true_iff, List.filter_eq_nil_iff]
  have hm : ∀ x : Nat, x < (grC noteSign l).length → (x ∈ hidM (grC noteSign l) ↔ unsB (grC noteSign l) x = true) := fun x hx => by
    rw [hidM, filtM, List.mem_filter, List.mem_range]
    exact ⟨fun h => h.2, fun h => ⟨hx, h⟩⟩
  constructor
  · intro h x hx
    have hxl := hc.lt x hx
    obtain ⟨y, hy, rfl⟩ := List.mem_map.1 hx
    have := (hm _ hxl).2 (h y hy)
    simp [this]
  · intro h y hy
    have hx : y.toNat ∈ xs.map Int.toNat := List.mem_map.2 ⟨y, hy, rfl⟩
    have := h _ hx
    exact (hm _ (hc.lt _ hx)).1 (by simpa using this)

theorem noUnk_ret {B : Nat} {w w' : World} {t0 t1 t2 t3 : Value} {r : List Value} (h : w'.heap[B]? = some (.cells #[.int .i64 0, .int .i64 0, .string ⟨#[]⟩] 44 (0, 0))) {a : Act}
    (ha : a = { tmps := (t0 :: t1 :: t2 :: t3 :: .pointer (some ⟨B, 0, none⟩) :: .int .u64 0 :: .bool false :: r).toArray, defers := [] }) (hb : Below w.heap.size w w') :
    bodyPost Tryd.prog Tryd.f46 (fun e w' => e = .returned (.tuple #[ntV 0 0 [], .int .u64 0, .bool false]) ∧ Below w.heap.size w w') .ret a w' := by
  subst ha
  have r0 := cell_of_block h 0
  have r1 := cell_of_block h 1
  have r2 := cell_of_block h 2
  simp at r0 r1 r2
  exact bodyPost_ret (v := .tuple #[ntV 0 0 [], .int .u64 0, .bool false]) (by simp [results, Tryd.results46, go_sem, r0, r1, r2, ntV]) rfl ⟨rfl, hb⟩

set_option maxRecDepth 100000 in
set_option maxHeartbeats 3200000 in
theorem readUnknown_any (l : List UInt8) (xs : List Int) (a : Option Addr) (cap : Nat) (w : World) (hM : HasMax w) (hl : l.length ≤ 1048576) (hat : At w a (ints xs)) (hx : xs.length ≤ 1048576) :
    Calls Tryd.prog 46 #[.string ⟨l.toArray⟩, .slice a xs.length cap] w fun e w' => e = .returned (.tuple #[ntV (nuW l xs) (nuH l xs) (nuC l xs), .int .u64 (maskM (nuX l xs) : Nat), .bool (nuOK l xs)]) ∧ Below w.heap.size w w' := by
  have hr := fun w hM => readNotes_any l w hM hl
  have h64 := grC_le noteSign l
  have hRn := heap_alloc_new w (.cells #[.int .i64 0, .int .i64 0, .string ⟨#[]⟩] 44)
  have hb0 : Below w.heap.size w (w.alloc (.cells #[.int .i64 0, .int .i64 0, .string ⟨#[]⟩] 44)) := (Below.refl _ _).alloc (Nat.le_refl _) _
  have hs0 : (w.alloc (.cells #[.int .i64 0, .int .i64 0, .string ⟨#[]⟩] 44)).heap.size = w.heap.size + 1 := by simp
  have hM0 := hM.later hb0
  cases hg : gridM noteSign l with
  | false =>
    obtain ⟨e1, e2, e3, e4, _⟩ := nu_no (l := l) (xs := xs) (by rw [nuOK, nuRise, hg]; rfl)
    have e5 : nuOK l xs = false := by rw [nuOK, nuRise, hg]; rfl
    rw [e1, e2, e3, e4, e5]
    rw [hg] at hr
    clear hg e1 e2 e3 e4 e5
    unfold ntV at hr
    go_enter Tryd.func46, Tryd.ntmps46
    go_wp2_with fail
    generalize w.alloc (.cells #[.int .i64 0, .int .i64 0, .string ⟨#[]⟩] 44) = w0 at *
    refine (hr _ hM0).mono ?_
    rintro e w1 ⟨rfl, hb1⟩
    have s1 := hb1.size
    have hb1a := hb1.alloc hb1.size (.cells #[.int .i64 (grW noteSign l), .int .i64 (grH noteSign l), .string ⟨(grC noteSign l).toArray⟩] 44)
    have hR1 := (hb1a.block _ (by omega)).trans hRn
    have r0 := cell_of_block hR1 0
    have r1 := cell_of_block hR1 1
    have r2 := cell_of_block hR1 2
    simp at r0 r1 r2
    have q0 := frozen_of_block hR1 0
    have q1 := frozen_of_block hR1 1
    have q2 := frozen_of_block hR1 2
    have HR := Lib.hid hR1
    have hRlt := block_lt hR1
    have HB := Lib.hid (hb0.trans (hb1a.mono (by omega)))
    clear hR1 hb1a hb1 hRn hr hb0
    go_wp2_with fail
    have b3 := block_set (block_set (block_set HR.out 0 (.int .i64 0)) 1 (.int .i64 0)) 2 (.string ⟨#[]⟩)
    exact noUnk_ret b3 rfl (HB.out.trans (((Below.set 0 _).trans (Below.set 1 _)).trans (Below.set 2 _)))
  | true =>
    rw [hg] at hr
    have hai := fun w h => areInc_any xs (grC noteSign l).length a cap w h hx
    cases hri : risesM (grC noteSign l).length (-1) xs with
    | false =>
      obtain ⟨e1, e2, e3, e4, _⟩ := nu_no (l := l) (xs := xs) (by rw [nuOK, nuRise, hri]; simp)
      have e5 : nuOK l xs = false := by rw [nuOK, nuRise, hri]; simp
      rw [e1, e2, e3, e4, e5]
      rw [hri] at hai
      clear hg hri e1 e2 e3 e4 e5
      unfold ntV at hr
      go_enter Tryd.func46, Tryd.ntmps46
      go_wp2_with fail
      generalize w.alloc (.cells #[.int .i64 0, .int .i64 0, .string ⟨#[]⟩] 44) = w0 at *
      refine (hr _ hM0).mono ?_
      rintro e w1 ⟨rfl, hb1⟩
      have s1 := hb1.size
      have hb1a := hb1.alloc hb1.size (.cells #[.int .i64 (grW noteSign l), .int .i64 (grH noteSign l), .string ⟨(grC noteSign l).toArray⟩] 44)
      have hR1 := (hb1a.block _ (by omega)).trans hRn
      have hat1 := (hat.later rfl hb0).later rfl hb1a
      have r0 := cell_of_block hR1 0
      have r1 := cell_of_block hR1 1
      have r2 := cell_of_block hR1 2
      simp at r0 r1 r2
      have q0 := frozen_of_block hR1 0
      have q1 := frozen_of_block hR1 1
      have q2 := frozen_of_block hR1 2
      have HR := Lib.hid hR1
      have hRlt := block_lt hR1
      have HB := Lib.hid (hb0.trans (hb1a.mono (by omega)))
      have HAI := Lib.hid (hai _ hat1)
      clear hR1 hb1a hb1 hRn hr hb0 hat1 hai
      go_wp2_with fail
      refine HAI.out.mono ?_
      rintro e w2 ⟨rfl, rfl⟩
      go_wp2_with fail
      have b3 := block_set (block_set (block_set HR.out 0 (.int .i64 0)) 1 (.int .i64 0)) 2 (.string ⟨#[]⟩)
      exact noUnk_ret b3 rfl (HB.out.trans (((Below.set 0 _).trans (Below.set 1 _)).trans (Below.set 2 _)))
    | true =>
      have hnr : nuRise l xs = true := by rw [nuRise, hg, hri]; rfl
      obtain ⟨_, hmap, hcel⟩ := nu_rise hnr
      have hna := nu_all hcel
      have hok : nuOK l xs = nuAll l xs := by rw [nuOK, hnr, Bool.true_and]
      rw [hri] at hai
      have hy64 : ∀ c ∈ xs.map Int.toNat, c < 64 := fun c hc => by have := hcel.lt c hc; omega
      have hh64 : ∀ c ∈ hidM (grC noteSign l), c < 64 := fun c hc => by have := hidM_lt _ _ hc; omega
      have hand := u64_andN hy64 hh64
      have hz := maskM_zero (xs := (xs.map Int.toNat).filter (fun x => !decide (x ∈ hidM (grC noteSign l)))) (fun c hc => hy64 c (List.mem_filter.1 hc).1)
      have HUN := Lib.hid (fun w => unknown_any (grW noteSign l) (grH noteSign l) (grC noteSign l) w h64)
      have hareas := areaOf_any (xs.map Int.toNat) a cap
      have hnats : nats (xs.map Int.toNat) = ints xs := by rw [nats, hmap]
      rw [hnats, List.length_map] at hareas
      have HAR := Lib.hid (fun w h => hareas w h hx hy64)
      clear hareas
      unfold ntV at hr HUN
      have HNT : Hid (∀ W H cs, ntV W H cs = .agg #[.int .i64 (W : Nat), .int .i64 (H : Nat), .string ⟨(cs : List UInt8).toArray⟩]) := fun _ _ _ => rfl
      cases hall : nuAll l xs with
      | false =>
        have hd : (bits .andNot .u64 (maskM (xs.map Int.toNat) : Nat) (maskM (hidM (grC noteSign l)) : Nat) != 0) = true := by
          rw [hand]
          rw [hall] at hna
          have hne : ¬ maskM ((xs.map Int.toNat).filter (fun x => !decide (x ∈ hidM (grC noteSign l)))) = 0 := fun h => by
            rw [hz.1 h] at hna; simp at hna
          simp
          omega
        rw [hall] at hok
        obtain ⟨e1, e2, e3, e4, _⟩ := nu_no hok
        rw [e1, e2, e3, e4, hok]
        clear hg hri e1 e2 e3 e4 hok hall hna hz hand hnr hmap hcel hy64 hh64 hnats
        generalize maskM (xs.map Int.toNat) = mx at *
        generalize maskM (hidM (grC noteSign l)) = mh at *
        go_enter Tryd.func46, Tryd.ntmps46
        go_wp2_with fail
        generalize w.alloc (.cells #[.int .i64 0, .int .i64 0, .string ⟨#[]⟩] 44) = w0 at *
        refine (hr _ hM0).mono ?_
        rintro e w1 ⟨rfl, hb1⟩
        have s1 := hb1.size
        have hb1a := hb1.alloc hb1.size (.cells #[.int .i64 (grW noteSign l), .int .i64 (grH noteSign l), .string ⟨(grC noteSign l).toArray⟩] 44)
        have hR1 := (hb1a.block _ (by omega)).trans hRn
        have hat1 := (hat.later rfl hb0).later rfl hb1a
        have HR := Lib.hid hR1
        have hRlt := block_lt hR1
        have HB := Lib.hid (hb0.trans (hb1a.mono (by omega)))
        have HAI := Lib.hid (hai _ hat1)
        have HAR1 := Lib.hid (HAR.out _ hat1)
        clear hR1 hb1a hb1 hRn hr hb0 hat1 hai
        go_wp2_with fail
        refine HAI.out.mono ?_
        rintro e w2 ⟨rfl, rfl⟩
        go_wp2_with fail
        refine HAR1.out.mono ?_
        rintro e w2 ⟨rfl, rfl⟩
        go_wp2_with fail
        generalize w1.alloc (.cells #[.int .i64 (grW noteSign l), .int .i64 (grH noteSign l), .string ⟨(grC noteSign l).toArray⟩] 44) = w2 at *
        refine (HUN.out _).mono ?_
        rintro e w3 ⟨rfl, hb3⟩
        have hR3 := (hb3.block _ hRlt).trans HR.out
        have r0 := cell_of_block hR3 0
        have r1 := cell_of_block hR3 1
        have r2 := cell_of_block hR3 2
        simp at r0 r1 r2
        have q0 := frozen_of_block hR3 0
        have q1 := frozen_of_block hR3 1
        have q2 := frozen_of_block hR3 2
        have HR3 := Lib.hid hR3
        have hRlt3 := block_lt hR3
        have HB3 := Lib.hid (HB.out.trans (hb3.mono (by omega)))
        clear hR3 hb3
        go_wp2_with fail
        have b3 := block_set (block_set (block_set HR3.out 0 (.int .i64 0)) 1 (.int .i64 0)) 2 (.string ⟨#[]⟩)
        exact noUnk_ret b3 rfl (HB3.out.trans (((Below.set 0 _).trans (Below.set 1 _)).trans (Below.set 2 _)))
      | true =>
        have hd : (bits .andNot .u64 (maskM (xs.map Int.toNat) : Nat) (maskM (hidM (grC noteSign l)) : Nat) != 0) = false := by
          rw [hand]
          rw [hall] at hna
          have hne : maskM ((xs.map Int.toNat).filter (fun x => !decide (x ∈ hidM (grC noteSign l)))) = 0 := hz.2 (by simpa using hna.symm)
          rw [hne]; rfl
        rw [hall] at hok
        obtain ⟨e1, e2, e3, e4⟩ := nu_yes hok
        rw [e1, e2, e3, e4, hok, HNT.out]
        clear hg hri e1 e2 e3 e4 hok hall hna hz hand hnr hmap hcel hy64 hh64 hnats
        generalize maskM (xs.map Int.toNat) = mx at *
        generalize maskM (hidM (grC noteSign l)) = mh at *
        go_enter Tryd.func46, Tryd.ntmps46
        go_wp2_with fail
        generalize w.alloc (.cells #[.int .i64 0, .int .i64 0, .string ⟨#[]⟩] 44) = w0 at *
        refine (hr _ hM0).mono ?_
        rintro e w1 ⟨rfl, hb1⟩
        have s1 := hb1.size
        have hb1a := hb1.alloc hb1.size (.cells #[.int .i64 (grW noteSign l), .int .i64 (grH noteSign l), .string ⟨(grC noteSign l).toArray⟩] 44)
        have hN1 := heap_alloc_new w1 (.cells #[.int .i64 (grW noteSign l), .int .i64 (grH noteSign l), .string ⟨(grC noteSign l).toArray⟩] 44)
        have hR1 := (hb1a.block _ (by omega)).trans hRn
        have hat1 := (hat.later rfl hb0).later rfl hb1a
        have HR := Lib.hid hR1
        have HN1 := Lib.hid hN1
        have hRlt := block_lt hR1
        have hNlt := block_lt hN1
        have HB := Lib.hid (hb0.trans (hb1a.mono (by omega)))
        have HAI := Lib.hid (hai _ hat1)
        have HAR1 := Lib.hid (HAR.out _ hat1)
        clear hR1 hN1 hb1a hb1 hRn hr hb0 hat1 hai
        go_wp2_with fail
        refine HAI.out.mono ?_
        rintro e w2 ⟨rfl, rfl⟩
        go_wp2_with fail
        refine HAR1.out.mono ?_
        rintro e w2 ⟨rfl, rfl⟩
        go_wp2_with fail
        generalize w1.alloc (.cells #[.int .i64 (grW noteSign l), .int .i64 (grH noteSign l), .string ⟨(grC noteSign l).toArray⟩] 44) = w2 at *
        refine (HUN.out _).mono ?_
        rintro e w3 ⟨rfl, hb3⟩
        have hR3 := (hb3.block _ hRlt).trans HR.out
        have hN3 := (hb3.block _ hNlt).trans HN1.out
        have r0 := cell_of_block hR3 0
        have r1 := cell_of_block hR3 1
        have r2 := cell_of_block hR3 2
        have n0 := cell_of_block hN3 0
        have n1 := cell_of_block hN3 1
        have n2 := cell_of_block hN3 2
        simp at r0 r1 r2 n0 n1 n2
        have q0 := frozen_of_block hR3 0
        have q1 := frozen_of_block hR3 1
        have q2 := frozen_of_block hR3 2
        have HR3 := Lib.hid hR3
        have hRlt3 := block_lt hR3
        have HB3 := Lib.hid (HB.out.trans (hb3.mono (by omega)))
        clear hR3 hN3 hb3
        go_wp2_with fail
        have b3 := block_set (block_set (block_set HR3.out 0 (.int .i64 (grW noteSign l))) 1 (.int .i64 (grH noteSign l))) 2 (.string ⟨(grC noteSign l).toArray⟩)
        refine bodyPost_ret (v := .tuple #[.agg #[.int .i64 (grW noteSign l), .int .i64 (grH noteSign l), .string ⟨(grC noteSign l).toArray⟩], .int .u64 mx, .bool true]) ?_ rfl ?_
        · have r0 := cell_of_block b3 0
          have r1 := cell_of_block b3 1
          have r2 := cell_of_block b3 2
          simp at r0 r1 r2
          simp [results, Tryd.results46, go_sem, r0, r1, r2]
        · exact ⟨rfl, HB3.out.trans (((Below.set 0 _).trans (Below.set 1 _)).trans (Below.set 2 _))⟩
end Go.Proofs.YthlbplmghjaeoabDoor
