/- Sure cells: the signs that all boards agree on, by rows of cells and by texts. -/
import Derived.Test.YthlbplmghjaeoaaAP
namespace Go.Proofs.Ythlbplmghjaeoaa
open Go.RowKit

/-- A sign as it is told where another board has a sign too. -/
def mgS (a b : UInt8) : UInt8 := if b = a then a else 63
def mgL (a b : List UInt8) : List UInt8 := List.zipWith mgS a b
/-- What all rows agree on. -/
def sureL (u : List UInt8) (r : List (List UInt8)) : List UInt8 := r.foldl mgL u
theorem mgS_self (a : UInt8) : mgS a a = a := by simp [mgS]
theorem mgS_q (b : UInt8) : mgS 63 b = 63 := by unfold mgS; split <;> rfl
theorem mgL_length {a b : List UInt8} (h : b.length = a.length) : (mgL a b).length = a.length := by simp [mgL, h]
theorem sureL_length : ∀ (r : List (List UInt8)) (u : List UInt8), (∀ v ∈ r, v.length = u.length) → (sureL u r).length = u.length
  | [], _, _ => rfl
  | v :: r, u, h => by
    have h1 := mgL_length (h v List.mem_cons_self)
    have h2 := sureL_length r (mgL u v) fun x hx => (h x (List.mem_cons_of_mem _ hx)).trans h1.symm
    exact h2.trans h1
theorem brGo_len (W : Nat) : ∀ (a b : List UInt8) (k : Nat), b.length = a.length → (brGo W k b).length = (brGo W k a).length
  | [], [], _, _ => rfl
  | [], _ :: _, _, h => by simp at h
  | _ :: _, [], _, h => by simp at h
  | c :: a, d :: b, k, h => by
    have ih := brGo_len W a b (k + 1) (by simpa using h)
    simp only [brGo, List.length_append, List.length_cons, ih]
theorem brGo_mg (W : Nat) : ∀ (a b : List UInt8) (k : Nat), b.length = a.length → brGo W k (mgL a b) = mgL (brGo W k a) (brGo W k b)
  | [], [], _, _ => rfl
  | [], _ :: _, _, h => by simp at h
  | _ :: _, [], _, h => by simp at h
  | c :: a, d :: b, k, h => by
    have ih := brGo_mg W a b (k + 1) (by simpa using h)
    show brGo W k (mgS c d :: mgL a b) = _
    simp only [brGo]
    rw [ih]
    by_cases hk : 0 < k ∧ k % W = 0
    · simp only [if_pos hk, List.cons_append, List.nil_append]
      simp [mgL, mgS]
    · simp only [if_neg hk, List.nil_append]
      simp [mgL]
theorem textM_len {W H : Nat} {a b : List UInt8} (hW : 1 ≤ W) (ha : a.length = W * H) (hb : b.length = W * H) : (textM b W H).length = (textM a W H).length := by
  rw [← brGo_text W H hW a ha, ← brGo_text W H hW b hb]
  exact brGo_len W a b 0 (hb.trans ha.symm)
theorem textM_mg {W H : Nat} {a b : List UInt8} (hW : 1 ≤ W) (ha : a.length = W * H) (hb : b.length = W * H) : textM (mgL a b) W H = mgL (textM a W H) (textM b W H) := by
  rw [← brGo_text W H hW a ha, ← brGo_text W H hW b hb, ← brGo_text W H hW (mgL a b) ((mgL_length (hb.trans ha.symm)).trans ha)]
  exact brGo_mg W a b 0 (hb.trans ha.symm)
theorem textM_sure {W H : Nat} (hW : 1 ≤ W) : ∀ (r : List (List UInt8)) (u : List UInt8), u.length = W * H → (∀ v ∈ r, v.length = W * H) → textM (sureL u r) W H = sureL (textM u W H) (r.map fun v => textM v W H)
  | [], _, _, _ => rfl
  | v :: r, u, hu, h => by
    have hv := h v List.mem_cons_self
    have ih := textM_sure hW r (mgL u v) ((mgL_length (hv.trans hu.symm)).trans hu) fun x hx => h x (List.mem_cons_of_mem _ hx)
    show textM (sureL (mgL u v) r) W H = _
    rw [ih, textM_mg hW hu hv]
    rfl
/-- Sign by sign. -/
def suS (t : List UInt8) (ts : List (List UInt8)) (i : Nat) : UInt8 := if (ts.all fun b => b.getD i 0 == t.getD i 0) = true then t.getD i 0 else 63
theorem fold_q : ∀ l : List UInt8, l.foldl mgS 63 = 63
  | [] => rfl
  | b :: l => by rw [List.foldl_cons, mgS_q]; exact fold_q l
theorem fold_mg : ∀ (l : List UInt8) (a : UInt8), l.foldl mgS a = if (l.all fun b => b == a) = true then a else 63
  | [], _ => rfl
  | b :: l, a => by
    rw [List.foldl_cons, List.all_cons]
    by_cases h : b = a
    · subst h
      rw [mgS_self, fold_mg l b]
      simp
    · have h1 : mgS a b = 63 := by simp [mgS, h]
      rw [h1, fold_q]
      simp [h]
theorem mgL_getD {a b : List UInt8} (h : b.length = a.length) {i : Nat} (hi : i < a.length) : (mgL a b).getD i 0 = mgS (a.getD i 0) (b.getD i 0) := by
  have hb : i < b.length := by omega
  simp [mgL, List.getD, List.getElem?_eq_getElem hi, List.getElem?_eq_getElem hb, List.getElem?_zipWith]
theorem sureL_getD : ∀ (r : List (List UInt8)) (u : List UInt8), (∀ v ∈ r, v.length = u.length) → ∀ i, i < u.length → (sureL u r).getD i 0 = suS u r i
  | [], u, _, i, _ => by simp [sureL, suS]
  | v :: r, u, h, i, hi => by
    have hv := h v List.mem_cons_self
    have h1 := mgL_length hv
    have h2 := sureL_getD r (mgL u v) (fun x hx => (h x (List.mem_cons_of_mem _ hx)).trans h1.symm) i (by omega)
    have h3 : (sureL u (v :: r)).getD i 0 = suS (mgL u v) r i := h2
    rw [h3]
    have f1 := fold_mg ((v :: r).map fun b => b.getD i 0) (u.getD i 0)
    have f2 := fold_mg (r.map fun b => b.getD i 0) ((mgL u v).getD i 0)
    rw [List.all_map] at f1 f2
    have e1 : suS u (v :: r) i = ((v :: r).map fun b => b.getD i 0).foldl mgS (u.getD i 0) := f1.symm
    have e2 : suS (mgL u v) r i = (r.map fun b => b.getD i 0).foldl mgS ((mgL u v).getD i 0) := f2.symm
    rw [e1, e2, mgL_getD hv hi]
    rfl
theorem sureL_eq (r : List (List UInt8)) (u : List UInt8) (h : ∀ v ∈ r, v.length = u.length) : sureL u r = (List.range u.length).map (suS u r) := by
  apply List.ext_getElem
  · rw [sureL_length r u h]; simp
  · intro i h1 h2
    have hi : i < u.length := by rw [sureL_length r u h] at h1; exact h1
    have := sureL_getD r u h i hi
    simp only [List.getElem_map, List.getElem_range]
    rw [← this]
    simp [List.getD, List.getElem?_eq_getElem h1]

/-- Boards as the program keeps them. -/
def LB.mgK (s x : LB) (k : Nat) : LB := ⟨(List.range 24).map fun i => if i < k then mgS (s.at i) (x.at i) else s.at i, by simp⟩
def LB.mg (s x : LB) : LB := s.mgK x 12
def LB.sure (s : LB) (L : List LB) : LB := L.foldl LB.mg s
theorem LB.mgK_at (s x : LB) (k i : Nat) (hi : i < 24) : (s.mgK x k).at i = if i < k then mgS (s.at i) (x.at i) else s.at i := by
  show (((List.range 24).map fun i => if i < k then mgS (s.at i) (x.at i) else s.at i)[i]?).getD 0 = _
  rw [List.getElem?_map, List.getElem?_range hi]
  rfl
theorem LB.eta (s : LB) : s.1 = (List.range 24).map s.at := by
  apply List.ext_getElem
  · simp [s.2]
  · intro i h1 h2
    simp [LB.at, List.getD, List.getElem?_eq_getElem h1]
theorem LB.mgK_zero (s x : LB) : s.mgK x 0 = s := by
  apply Subtype.ext
  rw [LB.eta s]
  unfold LB.mgK
  simp
theorem LB.mgK_succ (s x : LB) (k : Nat) : (s.mgK x (k + 1)).1 = (s.mgK x k).1.set k (mgS (s.at k) (x.at k)) := by
  apply List.ext_getElem
  · simp [LB.mgK]
  · intro i h1 h2
    have hi : i < 24 := by simpa [LB.mgK] using h1
    rw [List.getElem_set]
    simp only [LB.mgK, List.getElem_map, List.getElem_range]
    by_cases e : k = i
    · subst e; simp
    · by_cases h3 : i < k
      · simp [e, h3, show i < k + 1 by omega]
      · simp [e, h3, show ¬ i < k + 1 by omega]
theorem LB.mgK_same (s x : LB) (k : Nat) (h : x.at k = s.at k) : s.mgK x (k + 1) = s.mgK x k := by
  apply Subtype.ext
  show (List.range 24).map (fun i => if i < k + 1 then mgS (s.at i) (x.at i) else s.at i) = (List.range 24).map (fun i => if i < k then mgS (s.at i) (x.at i) else s.at i)
  apply List.map_congr_left
  intro i _
  by_cases e : i = k
  · subst e; simp [mgS, h]
  · by_cases h3 : i < k
    · simp [h3, show i < k + 1 by omega]
    · simp [h3, show ¬ i < k + 1 by omega]
theorem LB.mg_take (s x : LB) (n : Nat) (hn : n ≤ 12) : (s.mg x).1.take n = mgL (s.1.take n) (x.1.take n) := by
  have hs := s.2
  have hx := x.2
  apply List.ext_getElem
  · simp [LB.mg, LB.mgK, mgL, hs, hx]
  · intro i h1 h2
    have hi : i < n := by simp [LB.mg, LB.mgK] at h1; omega
    simp [LB.mg, LB.mgK, mgL, LB.at, List.getD, show i < 12 by omega, show i < s.1.length by omega, show i < x.1.length by omega]
theorem LB.sure_take (n : Nat) (hn : n ≤ 12) : ∀ (L : List LB) (s : LB), (s.sure L).1.take n = sureL (s.1.take n) (L.map fun x => x.1.take n)
  | [], _ => rfl
  | x :: L, s => by
    show ((s.mg x).sure L).1.take n = _
    rw [LB.sure_take n hn L (s.mg x), LB.mg_take s x n hn]
    rfl
end Go.Proofs.Ythlbplmghjaeoaa
