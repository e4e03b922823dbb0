/- G1, G2, laid as one text. -/
import Derived.Sort.LotD2
import Derived.Sort.LotA

/- Stable sorts: plain lemmas on rows that are sorted by a key and then by their places. -/
namespace Go.Proofs.Ythlbplmghjaeoae
open Go.Sort

section
variable {α : Type} [Inhabited α] (key idx : α → Nat)
/-- Less by the key alone; less by the key and then by the place. -/
def ltK (x y : α) : Bool := decide (key x < key y)
def ltX (x y : α) : Bool := decide (key x < key y ∨ (key x = key y ∧ idx x < idx y))
omit [Inhabited α] in
theorem ltX_not {x y : α} : ltX key idx x y = false ↔ key y < key x ∨ (key x = key y ∧ idx y ≤ idx x) := by
  simp only [ltX, decide_eq_false_iff_not]; omega
omit [Inhabited α] in
theorem ltX_yes {x y : α} : ltX key idx x y = true ↔ key x < key y ∨ (key x = key y ∧ idx x < idx y) := by
  simp only [ltX, decide_eq_true_eq]
omit [Inhabited α] in
theorem ltX_swo : SWO (ltX key idx) where
  irrefl x := by rw [ltX_not]; omega
  trans x y z h1 h2 := by rw [ltX_yes] at *; omega
  ntrans x y z h1 h2 := by rw [ltX_not] at *; omega
omit [Inhabited α] in
theorem ltX_later {x y : α} (h : idx y < idx x) : ltX key idx x y = ltK key x y := by
  unfold ltX ltK; rw [decide_eq_decide]; omega

theorem insInner_perm (lt : α → α → Bool) (a b : Nat) : ∀ (j : Nat) (d : Array α), a ≤ j → j < b → b ≤ d.size → PermIn a b d (insInner lt a j d)
  | 0, d, _, _, _ => by unfold insInner; exact permIn_refl d a b
  | j + 1, d, haj, hjb, hb => by
    unfold insInner
    split
    · rename_i hc
      simp only [Bool.and_eq_true, decide_eq_true_eq] at hc
      exact permIn_trans _ _ _ a b (swp_permIn d a b (j + 1) j haj hjb (by omega) (by omega) hb) (insInner_perm lt a b j _ (by omega) (by omega) (by rw [swp_size]; exact hb))
    · exact permIn_refl d a b
theorem insInner_lex (a : Nat) : ∀ (j : Nat) (d : Array α), j < d.size → (∀ t, a ≤ t → t < j → idx d[t]! < idx d[j]!) → insInner (ltK key) a j d = insInner (ltX key idx) a j d
  | 0, d, _, _ => by unfold insInner; rfl
  | j + 1, d, hj, h => by
    unfold insInner
    by_cases ha : j + 1 > a
    · have e := ltX_later key idx (h j (by omega) (by omega))
      rw [e]
      split
      · refine insInner_lex a j _ (by rw [swp_size]; omega) fun t h1 h2 => ?_
        rw [swp_get d hj (by omega), swp_get d hj (by omega), if_neg (by omega), if_neg (by omega), if_pos rfl]
        exact h t h1 (by omega)
      · rfl
    · simp [ha]
theorem insOuter_lex (a b : Nat) : ∀ (n i : Nat) (d : Array α), b - i = n → a < i → b ≤ d.size → (∀ t s, a ≤ t → t < s → i ≤ s → s < b → idx d[t]! < idx d[s]!) → insOuter (ltK key) a b i d = insOuter (ltX key idx) a b i d
  | 0, i, d, hn, _, _, _ => by
    rw [show insOuter (ltK key) a b i d = d by rw [insOuter, if_neg (by omega)], show insOuter (ltX key idx) a b i d = d by rw [insOuter, if_neg (by omega)]]
  | n + 1, i, d, hn, hai, hb, h => by
    have hlt : i < b := by omega
    rw [show insOuter (ltK key) a b i d = insOuter (ltK key) a b (i + 1) (insInner (ltK key) a i d) by rw [insOuter, if_pos hlt], show insOuter (ltX key idx) a b i d = insOuter (ltX key idx) a b (i + 1) (insInner (ltX key idx) a i d) by rw [insOuter, if_pos hlt], insInner_lex key idx a i d (by omega) fun t h1 h2 => h t i h1 h2 (Nat.le_refl _) hlt]
    have hp := insInner_perm (ltX key idx) a (i + 1) i d (by omega) (by omega) (by omega)
    refine insOuter_lex a b n (i + 1) _ (by omega) (by omega) (by rw [hp.1]; exact hb) fun t s h1 h2 h3 h4 => ?_
    rw [hp.2.1 s (.inr h3)]
    by_cases ht : t < i + 1
    · exact permIn_all d _ a (i + 1) (fun x => idx x < idx d[s]!) (by omega) hp (fun u h5 h6 => h u s h5 (by omega) (by omega) h4) t h1 ht
    · rw [hp.2.1 t (.inr (by omega))]; exact h t s h1 h2 (by omega) h4
/-- The insertion sort is stable. -/
theorem insertion_stable (d : Array α) (a b : Nat) (hab : a ≤ b) (hb : b ≤ d.size) (h : ∀ t s, a ≤ t → t < s → s < b → idx d[t]! < idx d[s]!) :
    PermIn a b d (insertionSort (ltK key) d a b) ∧ SortedIn (ltX key idx) a b (insertionSort (ltK key) d a b) := by
  have e : insertionSort (ltK key) d a b = insertionSort (ltX key idx) d a b := insOuter_lex key idx a b _ (a + 1) d rfl (by omega) hb fun t s h1 h2 _ h4 => h t s h1 h2 h4
  rw [e]
  exact insertionSort_holds (ltX_swo key idx) d a b hab hb
end

/-- Where the elements of two blocks of n come from when they are exchanged. -/
def swR (a b n t : Nat) : Nat := if a ≤ t ∧ t < a + n then t + (b - a) else if b ≤ t ∧ t < b + n then t - (b - a) else t
/-- Where the elements come from when two neighbouring blocks are rotated. -/
def rotP (a m b t : Nat) : Nat := if a ≤ t ∧ t < a + (b - m) then t + (m - a) else if a + (b - m) ≤ t ∧ t < b then t - (b - m) else t
theorem swR_zero (a b t : Nat) : swR a b 0 t = t := by unfold swR; split <;> (try split) <;> omega
theorem swR_succ (a b n t : Nat) (h : a + n < b) : (if t = b + n then a + n else if t = a + n then b + n else swR a b n t) = swR a b (n + 1) t := by
  unfold swR; repeat' split
  all_goals omega
theorem swR_at (a b n : Nat) (h : a + n < b) : swR a b n (a + n) = a + n ∧ swR a b n (b + n) = b + n := by
  unfold swR; constructor <;> repeat' split
  all_goals omega
theorem rot_more (m i j t : Nat) (h : j < i) (hi : i ≤ m) : swR (m - i) m j (rotP (m - (i - j)) m (m + j) t) = rotP (m - i) m (m + j) t := by
  unfold swR rotP; repeat' split
  all_goals omega
theorem rot_less (m i j t : Nat) (h : i < j) (hi : i ≤ m) (h0 : 0 < i) : swR (m - i) (m + j - i) i (rotP (m - i) m (m + (j - i)) t) = rotP (m - i) m (m + j) t := by
  unfold swR rotP; repeat' split
  all_goals omega
theorem rot_same (m i t : Nat) (hi : i ≤ m) : swR (m - i) m i t = rotP (m - i) m (m + i) t := by
  unfold swR rotP; repeat' split
  all_goals omega
theorem rotP_none (a m b t : Nat) (h : a = m ∨ m = b) (h1 : a ≤ m) (h2 : m ≤ b) : rotP a m b t = t := by
  unfold rotP; repeat' split
  all_goals omega
theorem rotP_in (a m b t n : Nat) (h1 : a ≤ m) (h2 : m ≤ b) (hn : b ≤ n) (ht : t < n) : rotP a m b t < n := by
  unfold rotP; repeat' split
  all_goals omega

section
variable {α : Type} [Inhabited α] (key idx : α → Nat)
/-- What a merge is given. -/
structure MrgIn (a m b : Nat) (d : Array α) : Prop where
  left : SortedIn (ltX key idx) a m d
  right : SortedIn (ltX key idx) m b d
  cross : ∀ i j, a ≤ i → i < m → m ≤ j → j < b → idx d[i]! < idx d[j]!
/-- The one element on the left is put in its place. -/
theorem mrg_one_left {a b i : Nat} {d d' : Array α} (h : MrgIn key idx a (a + 1) b d) (hi1 : a + 1 ≤ i) (hi2 : i ≤ b)
    (hl : i = a + 1 ∨ ltK key d[i - 1]! d[a]! = true) (hr : i = b ∨ ltK key d[i]! d[a]! = false)
    (hd : ∀ t, a ≤ t → t < b → d'[t]! = if t < i - 1 then d[t + 1]! else if t = i - 1 then d[a]! else d[t]!) : SortedIn (ltX key idx) a b d' := by
  have R := h.right
  have X := h.cross
  have hlo : ∀ t, a + 1 ≤ t → t < i → key d[t]! < key d[a]! := fun t h1 h2 => by
    have e : ltK key d[i - 1]! d[a]! = true := hl.resolve_left (by omega)
    simp only [ltK, decide_eq_true_eq] at e
    rcases Nat.lt_or_ge t (i - 1) with h3 | h3
    · have := R t (i - 1) h1 h3 (by omega)
      rw [ltX_not] at this; omega
    · obtain rfl : t = i - 1 := by omega
      exact e
  have hhi : ∀ t, i ≤ t → t < b → ltX key idx d[t]! d[a]! = false := fun t h1 h2 => by
    have e : ltK key d[i]! d[a]! = false := hr.resolve_left (by omega)
    simp only [ltK, decide_eq_false_iff_not] at e
    have x := X a t (Nat.le_refl _) (by omega) (by omega) h2
    rw [ltX_not]
    rcases Nat.lt_or_ge i t with h3 | h3
    · have := R i t (by omega) h3 h2
      rw [ltX_not] at this; omega
    · obtain rfl : t = i := by omega
      omega
  intro p q h1 h2 h3
  rw [hd p h1 (by omega), hd q (by omega) h3]
  by_cases c1 : q < i - 1
  · rw [if_pos c1, if_pos (by omega)]; exact R _ _ (by omega) (by omega) (by omega)
  · rw [if_neg c1]
    by_cases c2 : q = i - 1
    · rw [if_pos c2, if_pos (by omega), ltX_not]; exact .inl (hlo _ (by omega) (by omega))
    · rw [if_neg c2]
      by_cases c3 : p < i - 1
      · rw [if_pos c3]; exact R _ _ (by omega) (by omega) (by omega)
      · rw [if_neg c3]
        by_cases c4 : p = i - 1
        · rw [if_pos c4]; exact hhi q (by omega) h3
        · rw [if_neg c4]; exact R _ _ (by omega) h2 h3
/-- The one element on the right is put in its place. -/
theorem mrg_one_right {a m i : Nat} {d d' : Array α} (h : MrgIn key idx a m (m + 1) d) (hi1 : a ≤ i) (hi2 : i ≤ m)
    (hl : i = a ∨ ltK key d[m]! d[i - 1]! = false) (hr : i = m ∨ ltK key d[m]! d[i]! = true)
    (hd : ∀ t, a ≤ t → t < m + 1 → d'[t]! = if t < i then d[t]! else if t = i then d[m]! else d[t - 1]!) : SortedIn (ltX key idx) a (m + 1) d' := by
  have L := h.left
  have X := h.cross
  have hlo : ∀ t, a ≤ t → t < i → ltX key idx d[m]! d[t]! = false := fun t h1 h2 => by
    have e : ltK key d[m]! d[i - 1]! = false := hl.resolve_left (by omega)
    simp only [ltK, decide_eq_false_iff_not] at e
    have x := X t m h1 (by omega) (Nat.le_refl _) (by omega)
    rw [ltX_not]
    rcases Nat.lt_or_ge t (i - 1) with h3 | h3
    · have := L t (i - 1) h1 h3 (by omega)
      rw [ltX_not] at this; omega
    · obtain rfl : t = i - 1 := by omega
      omega
  have hhi : ∀ t, i ≤ t → t < m → key d[m]! < key d[t]! := fun t h1 h2 => by
    have e : ltK key d[m]! d[i]! = true := hr.resolve_left (by omega)
    simp only [ltK, decide_eq_true_eq] at e
    rcases Nat.lt_or_ge i t with h3 | h3
    · have := L i t (by omega) h3 h2
      rw [ltX_not] at this; omega
    · obtain rfl : t = i := by omega
      exact e
  intro p q h1 h2 h3
  rw [hd p h1 (by omega), hd q (by omega) h3]
  by_cases c1 : q < i
  · rw [if_pos c1, if_pos (by omega)]; exact L _ _ h1 h2 (by omega)
  · rw [if_neg c1]
    by_cases c2 : q = i
    · rw [if_pos c2, if_pos (by omega)]; exact hlo _ h1 (by omega)
    · rw [if_neg c2]
      by_cases c3 : p < i
      · rw [if_pos c3]; exact L _ _ h1 (by omega) (by omega)
      · rw [if_neg c3]
        by_cases c4 : p = i
        · rw [if_pos c4, ltX_not]; exact .inl (hhi _ (by omega) (by omega))
        · rw [if_neg c4]; exact L _ _ (by omega) (by omega) (by omega)
/-- Behind the rotation nothing in the first half comes behind anything in the second. -/
theorem mrg_cross {a m b mid s e : Nat} {d d1 : Array α} (h : MrgIn key idx a m b d) (hse : s + e = mid + m) (h1 : a ≤ s) (h2 : s ≤ m) (h3 : m ≤ e) (h4 : e ≤ b)
    (hl : s = a ∨ e = b ∨ ltK key d[e]! d[s - 1]! = false) (hr : s = m ∨ e = m ∨ ltK key d[e - 1]! d[s]! = true)
    (hd : ∀ t, a ≤ t → t < b → d1[t]! = d[rotP s m e t]!) : ∀ x y, a ≤ x → x < mid → mid ≤ y → y < b → ltX key idx d1[y]! d1[x]! = false := by
  intro x y hx1 hx2 hy1 hy2
  have L := h.left
  have R := h.right
  have X := h.cross
  rw [hd x hx1 (by omega), hd y (by omega) hy2]
  by_cases cx : x < s
  · have ex : rotP s m e x = x := by unfold rotP; repeat' split
                                     all_goals omega
    rw [ex]
    by_cases cy : y < e
    · have ey : rotP s m e y = y - (e - m) := by unfold rotP; repeat' split
                                                 all_goals omega
      rw [ey]; exact L _ _ hx1 (by omega) (by omega)
    · have ey : rotP s m e y = y := by unfold rotP; repeat' split
                                       all_goals omega
      rw [ey]
      have k : ltK key d[e]! d[s - 1]! = false := (hl.resolve_left (by omega)).resolve_left (by omega)
      simp only [ltK, decide_eq_false_iff_not] at k
      have q := X x y hx1 (by omega) (by omega) hy2
      have k1 : key d[x]! ≤ key d[s - 1]! := by
        rcases Nat.lt_or_ge x (s - 1) with g | g
        · have := L x (s - 1) hx1 g (by omega); rw [ltX_not] at this; omega
        · obtain rfl : x = s - 1 := by omega
          exact Nat.le_refl _
      have k2 : key d[e]! ≤ key d[y]! := by
        rcases Nat.lt_or_ge e y with g | g
        · have := R e y (by omega) g hy2; rw [ltX_not] at this; omega
        · obtain rfl : y = e := by omega
          exact Nat.le_refl _
      rw [ltX_not]; omega
  · have ex : rotP s m e x = x + (m - s) := by unfold rotP; repeat' split
                                               all_goals omega
    rw [ex]
    by_cases cy : y < e
    · have ey : rotP s m e y = y - (e - m) := by unfold rotP; repeat' split
                                                 all_goals omega
      rw [ey]
      have k : ltK key d[e - 1]! d[s]! = true := (hr.resolve_left (by omega)).resolve_left (by omega)
      simp only [ltK, decide_eq_true_eq] at k
      have k1 : key d[x + (m - s)]! ≤ key d[e - 1]! := by
        rcases Nat.lt_or_ge (x + (m - s)) (e - 1) with g | g
        · have := R _ (e - 1) (by omega) g (by omega); rw [ltX_not] at this; omega
        · obtain hh : x + (m - s) = e - 1 := by omega
          rw [hh]; exact Nat.le_refl _
      have k2 : key d[s]! ≤ key d[y - (e - m)]! := by
        rcases Nat.lt_or_ge s (y - (e - m)) with g | g
        · have := L s _ (by omega) g (by omega); rw [ltX_not] at this; omega
        · obtain hh : y - (e - m) = s := by omega
          rw [hh]; exact Nat.le_refl _
      rw [ltX_not]; omega
    · have ey : rotP s m e y = y := by unfold rotP; repeat' split
                                       all_goals omega
      rw [ey]; exact R _ _ (by omega) (by omega) hy2
/-- What the two merges within are given. -/
theorem mrg_first {a m b mid s e : Nat} {d d1 : Array α} (h : MrgIn key idx a m b d) (hse : s + e = mid + m) (h1 : a ≤ s) (h2 : s ≤ m) (h3 : m ≤ e) (h4 : e ≤ b) (_ : s ≤ mid)
    (hd : ∀ t, a ≤ t → t < b → d1[t]! = d[rotP s m e t]!) : MrgIn key idx a s mid d1 := by
  have ex : ∀ t, t < s → rotP s m e t = t := fun t ht => by unfold rotP; repeat' split
                                                            all_goals omega
  have ey : ∀ t, s ≤ t → t < mid → rotP s m e t = t + (m - s) := fun t h5 h6 => by unfold rotP; repeat' split
                                                                                   all_goals omega
  refine ⟨fun i j g1 g2 g3 => ?_, fun i j g1 g2 g3 => ?_, fun i j g1 g2 g3 g4 => ?_⟩
  · rw [hd i g1 (by omega), hd j (by omega) (by omega), ex i (by omega), ex j g3]; exact h.left _ _ g1 g2 (by omega)
  · rw [hd i (by omega) (by omega), hd j (by omega) (by omega), ey i (by omega) (by omega), ey j (by omega) g3]; exact h.right _ _ (by omega) (by omega) (by omega)
  · rw [hd i (by omega) (by omega), hd j (by omega) (by omega), ex i g2, ey j g3 g4]; exact h.cross _ _ g1 (by omega) (by omega) (by omega)
theorem mrg_second {a m b mid s e : Nat} {d d1 : Array α} (h : MrgIn key idx a m b d) (hse : s + e = mid + m) (h1 : a ≤ s) (h2 : s ≤ m) (h3 : m ≤ e) (h4 : e ≤ b) (_ : s ≤ mid)
    (hd : ∀ t, a ≤ t → t < b → d1[t]! = d[rotP s m e t]!) : MrgIn key idx mid e b d1 := by
  have ex : ∀ t, mid ≤ t → t < e → rotP s m e t = t - (e - m) := fun t h5 h6 => by unfold rotP; repeat' split
                                                                                   all_goals omega
  have ey : ∀ t, e ≤ t → rotP s m e t = t := fun t h5 => by unfold rotP; repeat' split
                                                            all_goals omega
  refine ⟨fun i j g1 g2 g3 => ?_, fun i j g1 g2 g3 => ?_, fun i j g1 g2 g3 g4 => ?_⟩
  · rw [hd i (by omega) (by omega), hd j (by omega) (by omega), ex i g1 (by omega), ex j (by omega) g3]; exact h.left _ _ (by omega) (by omega) (by omega)
  · rw [hd i (by omega) (by omega), hd j (by omega) (by omega), ey i g1, ey j (by omega)]; exact h.right _ _ (by omega) g2 g3
  · rw [hd i (by omega) (by omega), hd j (by omega) (by omega), ex i g1 g2, ey j g3]; exact h.cross _ _ (by omega) (by omega) (by omega) g4
/-- Two sorted halves, none of the second ahead of one of the first: the whole is sorted. -/
theorem sorted_halves {a mid b : Nat} {d : Array α} (h1 : SortedIn (ltX key idx) a mid d) (h2 : SortedIn (ltX key idx) mid b d) (h3 : ∀ x y, a ≤ x → x < mid → mid ≤ y → y < b → ltX key idx d[y]! d[x]! = false) : SortedIn (ltX key idx) a b d := by
  intro i j g1 g2 g3
  rcases Nat.lt_or_ge j mid with g | g
  · exact h1 i j g1 g2 g
  · rcases Nat.lt_or_ge i mid with g' | g'
    · exact h3 i j g1 g' g g3
    · exact h2 i j g' g2 g3
end
end Go.Proofs.Ythlbplmghjaeoae

/- Stable sorts: plain lemmas on sorted blocks. -/
namespace Go.Proofs.Ythlbplmghjaeoae
open Go.Sort

section
variable {α : Type} [Inhabited α] (key idx : α → Nat)
/-- What lies ahead of c came ahead of what lies behind. -/
def Crs (c n : Nat) (d : Array α) : Prop := ∀ i j, i < c → c ≤ j → j < n → idx d[i]! < idx d[j]!
theorem Crs.perm {a b c n : Nat} {d d' : Array α} (h : Crs idx c n d) (hp : PermIn a b d d') (hb : b ≤ n) (hn : n ≤ d.size) (hc : c ≤ a ∨ b ≤ c) : Crs idx c n d' := by
  intro i j h1 h2 h3
  by_cases hi : a ≤ i ∧ i < b
  · by_cases hj : a ≤ j ∧ j < b
    · omega
    · rw [hp.2.1 j (by omega)]
      exact permIn_all d d' a b (fun x => idx x < idx d[j]!) (by omega) hp (fun u h4 h5 => h u j (by omega) h2 h3) i hi.1 hi.2
  · rw [hp.2.1 i (by omega)]
    by_cases hj : a ≤ j ∧ j < b
    · exact permIn_all d d' a b (fun x => idx d[i]! < idx x) (by omega) hp (fun u h4 h5 => h i u h1 (by omega) (by omega)) j hj.1 hj.2
    · rw [hp.2.1 j (by omega)]; exact h i j h1 h2 h3
theorem sortedIn_perm_out {a b lo hi : Nat} {lt : α → α → Bool} {d d' : Array α} (h : SortedIn lt lo hi d) (hp : PermIn a b d d') (hc : hi ≤ a ∨ b ≤ lo) : SortedIn lt lo hi d' := by
  intro i j h1 h2 h3
  rw [hp.2.1 i (by omega), hp.2.1 j (by omega)]; exact h i j h1 h2 h3
theorem sortedIn_less {lo hi lo' hi' : Nat} {lt : α → α → Bool} {d : Array α} (h : SortedIn lt lo hi d) (h1 : lo ≤ lo') (h2 : hi' ≤ hi) : SortedIn lt lo' hi' d :=
  fun i j g1 g2 g3 => h i j (by omega) g2 (by omega)

/-- The first q blocks of bs are sorted, and the rest is as it came. -/
structure Ins20 (bs q n : Nat) (d : Array α) : Prop where
  done : ∀ p, p < q → SortedIn (ltX key idx) (p * bs) (p * bs + bs) d
  cross : ∀ p, p ≤ q → Crs idx (p * bs) n d
  rest : ∀ c, q * bs ≤ c → Crs idx c n d
/-- All blocks of bs are sorted. -/
structure Blks (bs n : Nat) (d : Array α) : Prop where
  srt : ∀ p, SortedIn (ltX key idx) (p * bs) (min (p * bs + bs) n) d
  cross : ∀ p, Crs idx (p * bs) n d
/-- The first q blocks of 2 * bs are sorted, and the blocks of bs behind them. -/
structure Mid (bs q n : Nat) (d : Array α) : Prop where
  done : ∀ p, p < q → SortedIn (ltX key idx) (p * (2 * bs)) (p * (2 * bs) + 2 * bs) d
  rest : ∀ p, 2 * q ≤ p → SortedIn (ltX key idx) (p * bs) (min (p * bs + bs) n) d
  cdone : ∀ p, Crs idx (p * (2 * bs)) n d
  crest : ∀ p, 2 * q ≤ p → Crs idx (p * bs) n d

theorem blk_step {p q bs : Nat} (h : p < q) : p * bs + bs ≤ q * bs := by
  have := Nat.mul_le_mul_right bs (show p + 1 ≤ q by omega)
  rwa [Nat.succ_mul] at this
theorem blk_le {p q bs : Nat} (h : p ≤ q) : p * bs ≤ q * bs := Nat.mul_le_mul_right bs h
theorem blk_two (p bs : Nat) : p * (2 * bs) = 2 * p * bs := by rw [← Nat.mul_assoc, Nat.mul_comm p 2]

theorem Ins20.start (bs n : Nat) (d : Array α) (h : ∀ t s, t < s → s < n → idx d[t]! < idx d[s]!) : Ins20 key idx bs 0 n d :=
  ⟨fun p hp => by omega, fun p _ i j h1 h2 h3 => h i j (by omega) h3, fun c _ i j h1 h2 h3 => h i j (by omega) h3⟩
theorem Ins20.incr {bs q n : Nat} {d : Array α} (h : Ins20 key idx bs q n d) : ∀ t s, q * bs ≤ t → t < s → s < n → idx d[t]! < idx d[s]! :=
  fun t s h1 h2 h3 => h.rest (t + 1) (by omega) t s (by omega) (by omega) h3
theorem Ins20.step {bs q n : Nat} {d d' : Array α} (h : Ins20 key idx bs q n d) (hn : n ≤ d.size) (hq : q * bs + bs ≤ n) (hp : PermIn (q * bs) (q * bs + bs) d d') (hs : SortedIn (ltX key idx) (q * bs) (q * bs + bs) d') : Ins20 key idx bs (q + 1) n d' := by
  have e : (q + 1) * bs = q * bs + bs := Nat.succ_mul q bs
  refine ⟨fun p h1 => ?_, fun p h1 => ?_, fun c h1 => ?_⟩
  · rcases Nat.lt_or_ge p q with g | g
    · exact sortedIn_perm_out (h.done p g) hp (.inl (blk_step g))
    · obtain rfl : p = q := by omega
      exact hs
  · rcases Nat.lt_or_ge p (q + 1) with g | g
    · exact (h.cross p (by omega)).perm idx hp hq hn (.inl (blk_le (by omega)))
    · obtain rfl : p = q + 1 := by omega
      rw [e]; exact (h.rest _ (by omega)).perm idx hp hq hn (.inr (Nat.le_refl _))
  · exact (h.rest c (by omega)).perm idx hp hq hn (.inr (by omega))
theorem Ins20.blks {bs q n : Nat} {d d' : Array α} (h : Ins20 key idx bs q n d) (hn : n ≤ d.size) (h1 : q * bs ≤ n) (h2 : n < q * bs + bs) (hp : PermIn (q * bs) n d d') (hs : SortedIn (ltX key idx) (q * bs) n d') : Blks key idx bs n d' := by
  refine ⟨fun p => ?_, fun p => ?_⟩
  · rcases Nat.lt_trichotomy p q with g | g | g
    · exact sortedIn_less (sortedIn_perm_out (h.done p g) hp (.inl (blk_step g))) (Nat.le_refl _) (by omega)
    · subst g; exact sortedIn_less hs (Nat.le_refl _) (by omega)
    · intro i j g1 g2 g3; have := blk_step (bs := bs) g; omega
  · rcases Nat.lt_or_ge q p with g | g
    · intro i j g1 g2 g3; have := blk_step (bs := bs) g; omega
    · exact (h.cross p g).perm idx hp (Nat.le_refl _) hn (.inl (blk_le g))
theorem Blks.mid {bs n : Nat} {d : Array α} (h : Blks key idx bs n d) : Mid key idx bs 0 n d :=
  ⟨fun p hp => by omega, fun p _ => h.srt p, fun p => by rw [blk_two]; exact h.cross _, fun p _ => h.cross p⟩
theorem Mid.ready {bs q n b : Nat} {d : Array α} (h : Mid key idx bs q n d) (h0 : q * (2 * bs) + bs < b) (h1 : b ≤ n) (h2 : b ≤ q * (2 * bs) + 2 * bs) : MrgIn key idx (q * (2 * bs)) (q * (2 * bs) + bs) b d := by
  have e := blk_two q bs
  have e1 : (2 * q + 1) * bs = 2 * q * bs + bs := Nat.succ_mul _ _
  have r0 := h.rest (2 * q) (Nat.le_refl _)
  have r1 := h.rest (2 * q + 1) (by omega)
  have c1 := h.crest (2 * q + 1) (by omega)
  rw [e1] at r1 c1
  rw [← e] at r0 r1 c1
  exact ⟨sortedIn_less r0 (Nat.le_refl _) (by omega), sortedIn_less r1 (Nat.le_refl _) (by omega), fun i j g1 g2 g3 g4 => c1 i j g2 g3 (by omega)⟩
theorem Mid.step {bs q n : Nat} {d d' : Array α} (h : Mid key idx bs q n d) (hn : n ≤ d.size) (hq : q * (2 * bs) + 2 * bs ≤ n) (hp : PermIn (q * (2 * bs)) (q * (2 * bs) + 2 * bs) d d') (hs : SortedIn (ltX key idx) (q * (2 * bs)) (q * (2 * bs) + 2 * bs) d') : Mid key idx bs (q + 1) n d' := by
  have e : (q + 1) * (2 * bs) = q * (2 * bs) + 2 * bs := Nat.succ_mul q _
  have e2 := blk_two (q + 1) bs
  refine ⟨fun p h1 => ?_, fun p h1 => ?_, fun p => ?_, fun p h1 => ?_⟩
  · rcases Nat.lt_or_ge p q with g | g
    · exact sortedIn_perm_out (h.done p g) hp (.inl (blk_step g))
    · obtain rfl : p = q := by omega
      exact hs
  · have := blk_le (bs := bs) h1
    exact sortedIn_perm_out (h.rest p (by omega)) hp (.inr (by omega))
  · rcases Nat.lt_or_ge q p with g | g
    · have := blk_step (bs := 2 * bs) g
      exact (h.cdone p).perm idx hp hq hn (.inr this)
    · exact (h.cdone p).perm idx hp hq hn (.inl (blk_le g))
  · have := blk_le (bs := bs) h1
    exact (h.crest p (by omega)).perm idx hp hq hn (.inr (by omega))
theorem Mid.last {bs q n : Nat} {d d' : Array α} (h : Mid key idx bs q n d) (hn : n ≤ d.size) (h1 : q * (2 * bs) + bs < n) (h2 : n < q * (2 * bs) + 2 * bs) (hp : PermIn (q * (2 * bs)) n d d') (hs : SortedIn (ltX key idx) (q * (2 * bs)) n d') : Blks key idx (2 * bs) n d' := by
  refine ⟨fun p => ?_, fun p => ?_⟩
  · rcases Nat.lt_trichotomy p q with g | g | g
    · exact sortedIn_less (sortedIn_perm_out (h.done p g) hp (.inl (blk_step g))) (Nat.le_refl _) (by omega)
    · subst g; exact sortedIn_less hs (Nat.le_refl _) (by omega)
    · intro i j g1 g2 g3; have := blk_step (bs := 2 * bs) g; omega
  · rcases Nat.lt_or_ge q p with g | g
    · intro i j g1 g2 g3; have := blk_step (bs := 2 * bs) g; omega
    · exact (h.cdone p).perm idx hp (Nat.le_refl _) hn (.inl (blk_le g))
theorem Mid.over {bs q n : Nat} {d : Array α} (h : Mid key idx bs q n d) (h1 : n ≤ q * (2 * bs) + bs) : Blks key idx (2 * bs) n d := by
  refine ⟨fun p => ?_, fun p => h.cdone p⟩
  rcases Nat.lt_trichotomy p q with g | g | g
  · exact sortedIn_less (h.done p g) (Nat.le_refl _) (by omega)
  · subst g
    have e := blk_two p bs
    have := h.rest (2 * p) (Nat.le_refl _)
    rw [← e] at this
    exact sortedIn_less this (Nat.le_refl _) (by omega)
  · intro i j g1 g2 g3; have := blk_step (bs := 2 * bs) g; omega
theorem Blks.end {bs n : Nat} {d : Array α} (h : Blks key idx bs n d) (hn : n ≤ bs) : SortedIn (ltX key idx) 0 n d := by
  have := h.srt 0
  rw [Nat.zero_mul] at this
  exact sortedIn_less this (Nat.le_refl _) (by omega)
end
end Go.Proofs.Ythlbplmghjaeoae
