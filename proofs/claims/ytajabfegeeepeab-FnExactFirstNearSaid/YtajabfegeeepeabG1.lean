/- Stable sorts: plain lemmas on rows that are sorted by a key and then by their places. -/
import Derived.Sort.LotD2
import Derived.Sort.LotA
namespace Go.Proofs.Ytajabfegeeepeab
open Go.Sort

section
variable {α : Type} [Inhabited α] (key idx : α → Nat)
/-- Less by the key alone; less by the key and then by the place. -/
def ltK (x y : α) : Bool := decide (key x < key y)
def ltX (x y : α) : Bool := decide (key x < key y ∨ (key x = key y ∧ idx x < idx y))
omit [Inhabited α] in
theorem ltX_not {x y : α} : ltX key idx x y = false ↔ key y < key x ∨ (key x = key y ∧ idx y ≤ idx x) := by
  simp only [ltX, decide_eq_false_iff_not]; omega
omit [Inhabited α] in
theorem ltX_yes {x y : α} : ltX key idx x y = true ↔ key x < key y ∨ (key x = key y ∧ idx x < idx y) := by
  simp only [ltX, decide_eq_true_eq]
omit [Inhabited α] in
theorem ltX_swo : SWO (ltX key idx) where
  irrefl x := by rw [ltX_not]; omega
  trans x y z h1 h2 := by rw [ltX_yes] at *; omega
  ntrans x y z h1 h2 := by rw [ltX_not] at *; omega
omit [Inhabited α] in
theorem ltX_later {x y : α} (h : idx y < idx x) : ltX key idx x y = ltK key x y := by
  unfold ltX ltK; rw [decide_eq_decide]; omega

theorem insInner_perm (lt : α → α → Bool) (a b : Nat) : ∀ (j : Nat) (d : Array α), a ≤ j → j < b → b ≤ d.size → PermIn a b d (insInner lt a j d)
  | 0, d, _, _, _ => by unfold insInner; exact permIn_refl d a b
  | j + 1, d, haj, hjb, hb => by
    unfold insInner
    split
    · rename_i hc
      simp only [Bool.and_eq_true, decide_eq_true_eq] at hc
      exact permIn_trans _ _ _ a b (swp_permIn d a b (j + 1) j haj hjb (by omega) (by omega) hb) (insInner_perm lt a b j _ (by omega) (by omega) (by rw [swp_size]; exact hb))
    · exact permIn_refl d a b
theorem insInner_lex (a : Nat) : ∀ (j : Nat) (d : Array α), j < d.size → (∀ t, a ≤ t → t < j → idx d[t]! < idx d[j]!) → insInner (ltK key) a j d = insInner (ltX key idx) a j d
  | 0, d, _, _ => by unfold insInner; rfl
  | j + 1, d, hj, h => by
    unfold insInner
    by_cases ha : j + 1 > a
    · have e := ltX_later key idx (h j (by omega) (by omega))
      rw [e]
      split
      · refine insInner_lex a j _ (by rw [swp_size]; omega) fun t h1 h2 => ?_
        rw [swp_get d hj (by omega), swp_get d hj (by omega), if_neg (by omega), if_neg (by omega), if_pos rfl]
        exact h t h1 (by omega)
      · rfl
    · simp [ha]
theorem insOuter_lex (a b : Nat) : ∀ (n i : Nat) (d : Array α), b - i = n → a < i → b ≤ d.size → (∀ t s, a ≤ t → t < s → i ≤ s → s < b → idx d[t]! < idx d[s]!) → insOuter (ltK key) a b i d = insOuter (ltX key idx) a b i d
  | 0, i, d, hn, _, _, _ => by
    rw [show insOuter (ltK key) a b i d = d by rw [insOuter, if_neg (by omega)], show insOuter (ltX key idx) a b i d = d by rw [insOuter, if_neg (by omega)]]
  | n + 1, i, d, hn, hai, hb, h => by
    have hlt : i < b := by omega
    rw [show insOuter (ltK key) a b i d = insOuter (ltK key) a b (i + 1) (insInner (ltK key) a i d) by rw [insOuter, if_pos hlt], show insOuter (ltX key idx) a b i d = insOuter (ltX key idx) a b (i + 1) (insInner (ltX key idx) a i d) by rw [insOuter, if_pos hlt], insInner_lex key idx a i d (by omega) fun t h1 h2 => h t i h1 h2 (Nat.le_refl _) hlt]
    have hp := insInner_perm (ltX key idx) a (i + 1) i d (by omega) (by omega) (by omega)
    refine insOuter_lex a b n (i + 1) _ (by omega) (by omega) (by rw [hp.1]; exact hb) fun t s h1 h2 h3 h4 => ?_
    rw [hp.2.1 s (.inr h3)]
    by_cases ht : t < i + 1
    · exact permIn_all d _ a (i + 1) (fun x => idx x < idx d[s]!) (by omega) hp (fun u h5 h6 => h u s h5 (by omega) (by omega) h4) t h1 ht
    · rw [hp.2.1 t (.inr (by omega))]; exact h t s h1 h2 (by omega) h4
/-- The insertion sort is stable. -/
theorem insertion_stable (d : Array α) (a b : Nat) (hab : a ≤ b) (hb : b ≤ d.size) (h : ∀ t s, a ≤ t → t < s → s < b → idx d[t]! < idx d[s]!) :
    PermIn a b d (insertionSort (ltK key) d a b) ∧ SortedIn (ltX key idx) a b (insertionSort (ltK key) d a b) := by
  have e : insertionSort (ltK key) d a b = insertionSort (ltX key idx) d a b := insOuter_lex key idx a b _ (a + 1) d rfl (by omega) hb fun t s h1 h2 _ h4 => h t s h1 h2 h4
  rw [e]
  exact insertionSort_holds (ltX_swo key idx) d a b hab hb
end

/-- Where the elements of two blocks of n come from when they are exchanged. -/
def swR (a b n t : Nat) : Nat := if a ≤ t ∧ t < a + n then t + (b - a) else if b ≤ t ∧ t < b + n then t - (b - a) else t
/-- Where the elements come from when two neighbouring blocks are rotated. -/
def rotP (a m b t : Nat) : Nat := if a ≤ t ∧ t < a + (b - m) then t + (m - a) else if a + (b - m) ≤ t ∧ t < b then t - (b - m) else t
theorem swR_zero (a b t : Nat) : swR a b 0 t = t := by unfold swR; split <;> (try split) <;> omega
theorem swR_succ (a b n t : Nat) (h : a + n < b) : (if t = b + n then a + n else if t = a + n then b + n else swR a b n t) = swR a b (n + 1) t := by
  unfold swR; repeat' split
  all_goals omega
theorem swR_at (a b n : Nat) (h : a + n < b) : swR a b n (a + n) = a + n ∧ swR a b n (b + n) = b + n := by
  unfold swR; constructor <;> repeat' split
  all_goals omega
theorem rot_more (m i j t : Nat) (h : j < i) (hi : i ≤ m) : swR (m - i) m j (rotP (m - (i - j)) m (m + j) t) = rotP (m - i) m (m + j) t := by
  unfold swR rotP; repeat' split
  all_goals omega
theorem rot_less (m i j t : Nat) (h : i < j) (hi : i ≤ m) (h0 : 0 < i) : swR (m - i) (m + j - i) i (rotP (m - i) m (m + (j - i)) t) = rotP (m - i) m (m + j) t := by
  unfold swR rotP; repeat' split
  all_goals omega
theorem rot_same (m i t : Nat) (hi : i ≤ m) : swR (m - i) m i t = rotP (m - i) m (m + i) t := by
  unfold swR rotP; repeat' split
  all_goals omega
theorem rotP_none (a m b t : Nat) (h : a = m ∨ m = b) (h1 : a ≤ m) (h2 : m ≤ b) : rotP a m b t = t := by
  unfold rotP; repeat' split
  all_goals omega
theorem rotP_in (a m b t n : Nat) (h1 : a ≤ m) (h2 : m ≤ b) (hn : b ≤ n) (ht : t < n) : rotP a m b t < n := by
  unfold rotP; repeat' split
  all_goals omega

section
variable {α : Type} [Inhabited α] (key idx : α → Nat)
/-- What a merge is given. -/
structure MrgIn (a m b : Nat) (d : Array α) : Prop where
  left : SortedIn (ltX key idx) a m d
  right : SortedIn (ltX key idx) m b d
  cross : ∀ i j, a ≤ i → i < m → m ≤ j → j < b → idx d[i]! < idx d[j]!
/-- The one element on the left is put in its place. -/
theorem mrg_one_left {a b i : Nat} {d d' : Array α} (h : MrgIn key idx a (a + 1) b d) (hi1 : a + 1 ≤ i) (hi2 : i ≤ b)
    (hl : i = a + 1 ∨ ltK key d[i - 1]! d[a]! = true) (hr : i = b ∨ ltK key d[i]! d[a]! = false)
    (hd : ∀ t, a ≤ t → t < b → d'[t]! = if t < i - 1 then d[t + 1]! else if t = i - 1 then d[a]! else d[t]!) : SortedIn (ltX key idx) a b d' := by
  have R := h.right
  have X := h.cross
  have hlo : ∀ t, a + 1 ≤ t → t < i → key d[t]! < key d[a]! := fun t h1 h2 => by
    have e : ltK key d[i - 1]! d[a]! = true := hl.resolve_left (by omega)
    simp only [ltK, decide_eq_true_eq] at e
    rcases Nat.lt_or_ge t (i - 1) with h3 | h3
    · have := R t (i - 1) h1 h3 (by omega)
      rw [ltX_not] at this; omega
    · obtain rfl : t = i - 1 := by omega
      exact e
  have hhi : ∀ t, i ≤ t → t < b → ltX key idx d[t]! d[a]! = false := fun t h1 h2 => by
    have e : ltK key d[i]! d[a]! = false := hr.resolve_left (by omega)
    simp only [ltK, decide_eq_false_iff_not] at e
    have x := X a t (Nat.le_refl _) (by omega) (by omega) h2
    rw [ltX_not]
    rcases Nat.lt_or_ge i t with h3 | h3
    · have := R i t (by omega) h3 h2
      rw [ltX_not] at this; omega
    · obtain rfl : t = i := by omega
      omega
  intro p q h1 h2 h3
  rw [hd p h1 (by omega), hd q (by omega) h3]
  by_cases c1 : q < i - 1
  · rw [if_pos c1, if_pos (by omega)]; exact R _ _ (by omega) (by omega) (by omega)
  · rw [if_neg c1]
    by_cases c2 : q = i - 1
    · rw [if_pos c2, if_pos (by omega), ltX_not]; exact .inl (hlo _ (by omega) (by omega))
    · rw [if_neg c2]
      by_cases c3 : p < i - 1
      · rw [if_pos c3]; exact R _ _ (by omega) (by omega) (by omega)
      · rw [if_neg c3]
        by_cases c4 : p = i - 1
        · rw [if_pos c4]; exact hhi q (by omega) h3
        · rw [if_neg c4]; exact R _ _ (by omega) h2 h3
/-- The one element on the right is put in its place. -/
theorem mrg_one_right {a m i : Nat} {d d' : Array α} (h : MrgIn key idx a m (m + 1) d) (hi1 : a ≤ i) (hi2 : i ≤ m)
    (hl : i = a ∨ ltK key d[m]! d[i - 1]! = false) (hr : i = m ∨ ltK key d[m]! d[i]! = true)
    (hd : ∀ t, a ≤ t → t < m + 1 → d'[t]! = if t < i then d[t]! else if t = i then d[m]! else d[t - 1]!) : SortedIn (ltX key idx) a (m + 1) d' := by
  have L := h.left
  have X := h.cross
  have hlo : ∀ t, a ≤ t → t < i → ltX key idx d[m]! d[t]! = false := fun t h1 h2 => by
    have e : ltK key d[m]! d[i - 1]! = false := hl.resolve_left (by omega)
    simp only [ltK, decide_eq_false_iff_not] at e
    have x := X t m h1 (by omega) (Nat.le_refl _) (by omega)
    rw [ltX_not]
    rcases Nat.lt_or_ge t (i - 1) with h3 | h3
    · have := L t (i - 1) h1 h3 (by omega)
      rw [ltX_not] at this; omega
    · obtain rfl : t = i - 1 := by omega
      omega
  have hhi : ∀ t, i ≤ t → t < m → key d[m]! < key d[t]! := fun t h1 h2 => by
    have e : ltK key d[m]! d[i]! = true := hr.resolve_left (by omega)
    simp only [ltK, decide_eq_true_eq] at e
    rcases Nat.lt_or_ge i t with h3 | h3
    · have := L i t (by omega) h3 h2
      rw [ltX_not] at this; omega
    · obtain rfl : t = i := by omega
      exact e
  intro p q h1 h2 h3
  rw [hd p h1 (by omega), hd q (by omega) h3]
  by_cases c1 : q < i
  · rw [if_pos c1, if_pos (by omega)]; exact L _ _ h1 h2 (by omega)
  · rw [if_neg c1]
    by_cases c2 : q = i
    · rw [if_pos c2, if_pos (by omega)]; exact hlo _ h1 (by omega)
    · rw [if_neg c2]
      by_cases c3 : p < i
      · rw [if_pos c3]; exact L _ _ h1 (by omega) (by omega)
      · rw [if_neg c3]
        by_cases c4 : p = i
        · rw [if_pos c4, ltX_not]; exact .inl (hhi _ (by omega) (by omega))
        · rw [if_neg c4]; exact L _ _ (by omega) (by omega) (by omega)
/-- Behind the rotation nothing in the first half comes behind anything in the second. -/
theorem mrg_cross {a m b mid s e : Nat} {d d1 : Array α} (h : MrgIn key idx a m b d) (hse : s + e = mid + m) (h1 : a ≤ s) (h2 : s ≤ m) (h3 : m ≤ e) (h4 : e ≤ b)
    (hl : s = a ∨ e = b ∨ ltK key d[e]! d[s - 1]! = false) (hr : s = m ∨ e = m ∨ ltK key d[e - 1]! d[s]! = true)
    (hd : ∀ t, a ≤ t → t < b → d1[t]! = d[rotP s m e t]!) : ∀ x y, a ≤ x → x < mid → mid ≤ y → y < b → ltX key idx d1[y]! d1[x]! = false := by
  intro x y hx1 hx2 hy1 hy2
  have L := h.left
  have R := h.right
  have X := h.cross
  rw [hd x hx1 (by omega), hd y (by omega) hy2]
  by_cases cx : x < s
  · have ex : rotP s m e x = x := by unfold rotP; repeat' split
                                     all_goals omega
    rw [ex]
    by_cases cy : y < e
    · have ey : rotP s m e y = y - (e - m) := by unfold rotP; repeat' split
                                                 all_goals omega
      rw [ey]; exact L _ _ hx1 (by omega) (by omega)
    · have ey : rotP s m e y = y := by unfold rotP; repeat' split
                                       all_goals omega
      rw [ey]
      have k : ltK key d[e]! d[s - 1]! = false := (hl.resolve_left (by omega)).resolve_left (by omega)
      simp only [ltK, decide_eq_false_iff_not] at k
      have q := X x y hx1 (by omega) (by omega) hy2
      have k1 : key d[x]! ≤ key d[s - 1]! := by
        rcases Nat.lt_or_ge x (s - 1) with g | g
        · have := L x (s - 1) hx1 g (by omega); rw [ltX_not] at this; omega
        · obtain rfl : x = s - 1 := by omega
          exact Nat.le_refl _
      have k2 : key d[e]! ≤ key d[y]! := by
        rcases Nat.lt_or_ge e y with g | g
        · have := R e y (by omega) g hy2; rw [ltX_not] at this; omega
        · obtain rfl : y = e := by omega
          exact Nat.le_refl _
      rw [ltX_not]; omega
  · have ex : rotP s m e x = x + (m - s) := by unfold rotP; repeat' split
                                               all_goals omega
    rw [ex]
    by_cases cy : y < e
    · have ey : rotP s m e y = y - (e - m) := by unfold rotP; repeat' split
                                                 all_goals omega
      rw [ey]
      have k : ltK key d[e - 1]! d[s]! = true := (hr.resolve_left (by omega)).resolve_left (by omega)
      simp only [ltK, decide_eq_true_eq] at k
      have k1 : key d[x + (m - s)]! ≤ key d[e - 1]! := by
        rcases Nat.lt_or_ge (x + (m - s)) (e - 1) with g | g
        · have := R _ (e - 1) (by omega) g (by omega); rw [ltX_not] at this; omega
        · obtain hh : x + (m - s) = e - 1 := by omega
          rw [hh]; exact Nat.le_refl _
      have k2 : key d[s]! ≤ key d[y - (e - m)]! := by
        rcases Nat.lt_or_ge s (y - (e - m)) with g | g
        · have := L s _ (by omega) g (by omega); rw [ltX_not] at this; omega
        · obtain hh : y - (e - m) = s := by omega
          rw [hh]; exact Nat.le_refl _
      rw [ltX_not]; omega
    · have ey : rotP s m e y = y := by unfold rotP; repeat' split
                                       all_goals omega
      rw [ey]; exact R _ _ (by omega) (by omega) hy2
/-- What the two merges within are given. -/
theorem mrg_first {a m b mid s e : Nat} {d d1 : Array α} (h : MrgIn key idx a m b d) (hse : s + e = mid + m) (h1 : a ≤ s) (h2 : s ≤ m) (h3 : m ≤ e) (h4 : e ≤ b) (_ : s ≤ mid)
    (hd : ∀ t, a ≤ t → t < b → d1[t]! = d[rotP s m e t]!) : MrgIn key idx a s mid d1 := by
  have ex : ∀ t, t < s → rotP s m e t = t := fun t ht => by unfold rotP; repeat' split
                                                            all_goals omega
  have ey : ∀ t, s ≤ t → t < mid → rotP s m e t = t + (m - s) := fun t h5 h6 => by unfold rotP; repeat' split
                                                                                   all_goals omega
  refine ⟨fun i j g1 g2 g3 => ?_, fun i j g1 g2 g3 => ?_, fun i j g1 g2 g3 g4 => ?_⟩
  · rw [hd i g1 (by omega), hd j (by omega) (by omega), ex i (by omega), ex j g3]; exact h.left _ _ g1 g2 (by omega)
  · rw [hd i (by omega) (by omega), hd j (by omega) (by omega), ey i (by omega) (by omega), ey j (by omega) g3]; exact h.right _ _ (by omega) (by omega) (by omega)
  · rw [hd i (by omega) (by omega), hd j (by omega) (by omega), ex i g2, ey j g3 g4]; exact h.cross _ _ g1 (by omega) (by omega) (by omega)
theorem mrg_second {a m b mid s e : Nat} {d d1 : Array α} (h : MrgIn key idx a m b d) (hse : s + e = mid + m) (h1 : a ≤ s) (h2 : s ≤ m) (h3 : m ≤ e) (h4 : e ≤ b) (_ : s ≤ mid)
    (hd : ∀ t, a ≤ t → t < b → d1[t]! = d[rotP s m e t]!) : MrgIn key idx mid e b d1 := by
  have ex : ∀ t, mid ≤ t → t < e → rotP s m e t = t - (e - m) := fun t h5 h6 => by unfold rotP; repeat' split
                                                                                   all_goals omega
  have ey : ∀ t, e ≤ t → rotP s m e t = t := fun t h5 => by unfold rotP; repeat' split
                                                            all_goals omega
  refine ⟨fun i j g1 g2 g3 => ?_, fun i j g1 g2 g3 => ?_, fun i j g1 g2 g3 g4 => ?_⟩
  · rw [hd i (by omega) (by omega), hd j (by omega) (by omega), ex i g1 (by omega), ex j (by omega) g3]; exact h.left _ _ (by omega) (by omega) (by omega)
  · rw [hd i (by omega) (by omega), hd j (by omega) (by omega), ey i g1, ey j (by omega)]; exact h.right _ _ (by omega) g2 g3
  · rw [hd i (by omega) (by omega), hd j (by omega) (by omega), ex i g1 g2, ey j g3]; exact h.cross _ _ (by omega) (by omega) (by omega) g4
/-- Two sorted halves, none of the second ahead of one of the first: the whole is sorted. -/
theorem sorted_halves {a mid b : Nat} {d : Array α} (h1 : SortedIn (ltX key idx) a mid d) (h2 : SortedIn (ltX key idx) mid b d) (h3 : ∀ x y, a ≤ x → x < mid → mid ≤ y → y < b → ltX key idx d[y]! d[x]! = false) : SortedIn (ltX key idx) a b d := by
  intro i j g1 g2 g3
  rcases Nat.lt_or_ge j mid with g | g
  · exact h1 i j g1 g2 g
  · rcases Nat.lt_or_ge i mid with g' | g'
    · exact h3 i j g1 g' g g3
    · exact h2 i j g' g2 g3
end
end Go.Proofs.Ytajabfegeeepeab
