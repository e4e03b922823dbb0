/- Listed boards: plain lemmas on their signs and numbers. -/
import Derived.Test.YthlbplmghjaeoaaDoorGJ2
import Derived.Test.YthlbplmghjaeoaaDoorGN1
import Derived.Test.YthlbplmghjaeoaaDoorGK0
import Derived.Outline
namespace Go.Proofs.YthlbplmghjaeoaaDoor
open Go.RowKit

/-- A sum over the mines. -/
def sumW (f : Nat → Nat) (k : Nat) : List UInt8 → Nat
  | [] => 0
  | s :: r => (if s = 42 then f k else 0) + sumW f (k + 1) r
theorem sumW_snoc (f : Nat → Nat) (s : UInt8) : ∀ (u : List UInt8) (k : Nat), sumW f k (u ++ [s]) = sumW f k u + if s = 42 then f (k + u.length) else 0
  | [], k => by simp [sumW]
  | c :: r, k => by
    rw [List.cons_append, sumW, sumW, sumW_snoc f s r (k + 1), List.length_cons, show k + (r.length + 1) = k + 1 + r.length by omega]
    exact (Nat.add_assoc _ _ _).symm
theorem sumW_add (f g : Nat → Nat) : ∀ (u : List UInt8) (k : Nat), sumW (fun j => f j + g j) k u = sumW f k u + sumW g k u
  | [], k => rfl
  | c :: r, k => by rw [sumW, sumW, sumW, sumW_add f g r]; split <;> omega
theorem sumW_congr {f g : Nat → Nat} : ∀ (u : List UInt8) (k : Nat), (∀ j, k ≤ j → j < k + u.length → f j = g j) → sumW f k u = sumW g k u
  | [], k, _ => rfl
  | c :: r, k, h => by
    rw [sumW, sumW, sumW_congr r (k + 1) fun j h1 h2 => h j (by omega) (by simp; omega), h k (Nat.le_refl _) (by simp)]
theorem sumW_zero : ∀ (u : List UInt8) (k : Nat), sumW (fun _ => 0) k u = 0
  | [], _ => rfl
  | c :: r, k => by rw [sumW, sumW_zero r]; split <;> rfl
theorem sumW_one (a : Nat) : ∀ (u : List UInt8) (k : Nat), k ≤ a → sumW (fun j => if a = j then 1 else 0) k u = if u.getD (a - k) 0 = 42 then 1 else 0
  | [], k, _ => by simp [sumW]
  | c :: r, k, h => by
    rw [sumW]
    by_cases e : a = k
    · subst e
      rw [if_pos rfl, Nat.sub_self, sumW_congr (g := fun _ => 0) r (a + 1) (fun j h1 _ => if_neg (by omega)), sumW_zero]
      rfl
    · rw [if_neg e, sumW_one a r (k + 1) (by omega), show a - k = (a - (k + 1)) + 1 by omega]
      simp
theorem countAt_sum (cells : List UInt8) : ∀ l : List Nat, countAt cells l = sumW (fun j => l.count j) 0 cells
  | [] => by simp [countAt, sumW_zero]
  | a :: r => by
    have e : (fun j => (a :: r).count j) = fun j => r.count j + (if a = j then 1 else 0) := by
      funext j
      rw [List.count_cons]
      simp [beq_iff_eq]
    rw [e, sumW_add, ← countAt_sum cells r, sumW_one a cells 0 (Nat.zero_le _), Nat.sub_zero, countAt]
    split <;> omega
/-- How many mines among the first cells are beside a cell. -/
def numW (W n : Nat) (u : List UInt8) (i : Nat) : Nat := sumW (fun j => (nearM W n j).count i) 0 u
set_option maxRecDepth 100000 in
theorem near_sym : ∀ W : Nat, W < 9 → ∀ H : Nat, H < 9 → W * H ≤ 12 → ∀ i, i < W * H → ∀ j, j < W * H → (nearM W (W * H) j).count i = (nearM W (W * H) i).count j := by decide +kernel
theorem numW_num (W H : Nat) (hW : W ≤ 8) (hH : H ≤ 8) (h12 : W * H ≤ 12) (cells : List UInt8) (hn : cells.length = W * H) (i : Nat) (hi : i < W * H) : numW W (W * H) cells i = numM cells W i := by
  unfold numW numM
  rw [countAt_sum, hn]
  exact sumW_congr cells 0 fun j _ h2 => near_sym W (by omega) H (by omega) h12 i hi j (by omega)

/-- The board of which the first cells are told. -/
def preP (W n : Nat) (u : List UInt8) : List UInt8 := (List.range 12).map (fun i => u.getD i 0) ++ (List.range 12).map (fun i => UInt8.ofNat (numW W n u i))
theorem preP_length (W n : Nat) (u : List UInt8) : (preP W n u).length = 24 := by simp [preP]
def preB (W n : Nat) (u : List UInt8) : LB := ⟨preP W n u, preP_length W n u⟩
theorem preP_sign (W n : Nat) (u : List UInt8) (i : Nat) (hi : i < 12) : (preP W n u).getD i 0 = u.getD i 0 := by
  unfold preP
  simp only [List.getD]
  rw [List.getElem?_append_left (by simpa using hi)]
  simp [hi]
theorem preP_num (W n : Nat) (u : List UInt8) (i : Nat) (hi : i < 12) : (preP W n u).getD (12 + i) 0 = UInt8.ofNat (numW W n u i) := by
  unfold preP
  simp only [List.getD]
  rw [List.getElem?_append_right (by simp)]
  simp [hi]
theorem ext_getD {p q : List UInt8} (hp : p.length = 24) (hq : q.length = 24) (h : ∀ k, k < 24 → p.getD k 0 = q.getD k 0) : p = q := by
  refine List.ext_getElem (by omega) fun k h1 h2 => ?_
  have := h k (by omega)
  simpa [List.getD, h1, h2] using this
theorem with_pre (W n c : Nat) (u : List UInt8) (s : UInt8) (hu : u.length = c) (hc : c < 12) : withP (preP W n u) c s (nearM W n c) = preP W n (u ++ [s]) := by
  refine ext_getD (by rw [withP_length, preP_length]) (preP_length _ _ _) fun k hk => ?_
  have e0 : ((preP W n u).set c s).getD k 0 = if k = c then s else (preP W n u).getD k 0 := by
    by_cases h : k = c
    · subst h; simp [List.getD, preP_length, hk]
    · rw [if_neg h]; simp [List.getD, Ne.symm h]
  have l0 : ((preP W n u).set c s).length = 24 := by rw [List.length_set, preP_length]
  have e1 : (withP (preP W n u) c s (nearM W n c)).getD k 0 = ((preP W n u).set c s).getD k 0 + UInt8.ofNat (if s = 42 then (nearM W n c).countP (fun o => decide (12 + o = k)) else 0) := by
    unfold withP
    split
    · exact bumps_getD k hk _ _ l0
    · simp
  rw [e1, e0]
  by_cases hk12 : k < 12
  · have z : (nearM W n c).countP (fun o => decide (12 + o = k)) = 0 := by
      rw [List.countP_eq_zero]; intro o _; simp; omega
    rw [z, ite_self, preP_sign _ _ _ _ hk12, preP_sign _ _ _ _ hk12]
    by_cases h : k = c
    · subst h; subst hu; simp
    · rw [if_neg h]
      rcases Nat.lt_or_ge k u.length with g | g
      · simp only [List.getD]; rw [List.getElem?_append_left g]; simp
      · simp only [List.getD]; rw [List.getElem?_eq_none g, List.getElem?_eq_none (by simp; omega)]; rfl
  · obtain ⟨i, rfl⟩ : ∃ i, k = 12 + i := ⟨k - 12, by omega⟩
    rw [if_neg (by omega), preP_num _ _ _ _ (by omega), preP_num _ _ _ _ (by omega), ← UInt8.ofNat_add]
    congr 1
    unfold numW
    rw [sumW_snoc, Nat.zero_add, hu]
    congr 1
    have z : (nearM W n c).countP (fun o => decide (12 + o = 12 + i)) = (nearM W n c).count i := by
      unfold List.count
      refine List.countP_congr fun o _ => ?_
      simp
    rw [z]

/-- All boards of which the first c cells are told, in order. -/
def listGo (W n : Nat) : Nat → List LB
  | 0 => [default]
  | c + 1 => (listGo W n c).flatMap fun x => [x.wth c 42 (nearM W n c), x.wth c 46 (nearM W n c)]
theorem ctB_two (c m : Nat) (b : Bool) : ctB (c + 1) (2 * m + b.toNat) = ctB c m ++ [if b = true then 46 else 42] := by
  unfold ctB
  rw [List.range_succ, List.map_append]
  congr 1
  · refine List.map_congr_left fun i hi => ?_
    have hi := List.mem_range.1 hi
    rw [show c + 1 - 1 - i = (c - 1 - i) + 1 by omega, Nat.testBit_succ, show (2 * m + b.toNat) / 2 = m by cases b <;> simp <;> omega]
  · simp only [List.map_cons, List.map_nil, Nat.add_sub_cancel, Nat.sub_self]
    rw [Nat.testBit_zero]
    cases b <;> simp <;> omega
theorem range_two {α : Type} (f : Nat → α) : ∀ k, (List.range (2 * k)).map f = (List.range k).flatMap fun m => [f (2 * m), f (2 * m + 1)]
  | 0 => rfl
  | k + 1 => by
    rw [show 2 * (k + 1) = 2 * k + 1 + 1 by omega, List.range_succ, List.range_succ, List.range_succ, List.flatMap_append, ← range_two f k]
    simp
theorem pre_nil (W n : Nat) : preB W n [] = default := by
  apply Subtype.ext
  show preP W n [] = List.replicate 24 0
  unfold preP numW sumW
  decide
theorem listGo_pre (W n : Nat) : ∀ c, c ≤ 12 → listGo W n c = (List.range (2 ^ c)).map fun m => preB W n (ctB c m)
  | 0, _ => by
    show [default] = [preB W n (ctB 0 0)]
    rw [show ctB 0 0 = [] from rfl, pre_nil]
  | c + 1, hc => by
    rw [listGo, listGo_pre W n c (by omega), List.flatMap_map, Nat.pow_succ, Nat.mul_comm, range_two]
    congr 1
    funext m
    have e : ∀ s, (preB W n (ctB c m)).wth c s (nearM W n c) = preB W n (ctB c m ++ [s]) := fun s =>
      Subtype.ext (with_pre W n c (ctB c m) s (ctB_length c m) (by omega))
    have t1 := ctB_two c m false
    have t2 := ctB_two c m true
    simp only [Bool.toNat_false, Bool.toNat_true, Nat.add_zero, if_true, if_false, Bool.false_eq_true] at t1 t2
    rw [e, e, t1, t2]
theorem listGo_length (W n c : Nat) (hc : c ≤ 12) : (listGo W n c).length = 2 ^ c := by rw [listGo_pre W n c hc]; simp
/-- The listed boards are those of the model, in its order. -/
theorem listGo_all (W n : Nat) (hn : n ≤ 12) : listGo W n n = (allM n (-1)).map (preB W n) := by
  rw [listGo_pre W n n hn, allM, allK, List.filter_eq_self.2 (fun c _ => by simp [mnB]), List.map_map]
  rfl
end Go.Proofs.YthlbplmghjaeoaaDoor
