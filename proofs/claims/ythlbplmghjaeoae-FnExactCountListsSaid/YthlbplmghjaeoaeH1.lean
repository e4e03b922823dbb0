/- Strips: sums of ways (plain). -/
namespace Go.Proofs.Ythlbplmghjaeoae

/-- The sum of the first n values. -/
def sumN : Nat → (Nat → Nat) → Nat
  | 0, _ => 0
  | n + 1, F => sumN n F + F n
theorem sumN_congr {n : Nat} {F G : Nat → Nat} (h : ∀ i, i < n → F i = G i) : sumN n F = sumN n G := by
  induction n with
  | zero => rfl
  | succ n ih => rw [sumN, sumN, ih (fun i hi => h i (by omega)), h n (by omega)]
theorem sumN_zero (n : Nat) : sumN n (fun _ => 0) = 0 := by
  induction n with
  | zero => rfl
  | succ n ih => rw [sumN, ih]
theorem sumN_add (n : Nat) (F G : Nat → Nat) : sumN n (fun i => F i + G i) = sumN n F + sumN n G := by
  induction n with
  | zero => rfl
  | succ n ih => rw [sumN, sumN, sumN, ih]; omega
theorem sumN_mul (n c : Nat) (F : Nat → Nat) : sumN n (fun i => c * F i) = c * sumN n F := by
  induction n with
  | zero => rfl
  | succ n ih => rw [sumN, sumN, ih, Nat.mul_add]
theorem sumN_mono {n : Nat} {F G : Nat → Nat} (h : ∀ i, i < n → F i ≤ G i) : sumN n F ≤ sumN n G := by
  induction n with
  | zero => exact Nat.le_refl _
  | succ n ih => rw [sumN, sumN]; exact Nat.add_le_add (ih (fun i hi => h i (by omega))) (h n (by omega))
theorem sumN_one {n : Nat} (F : Nat → Nat) {i : Nat} (h : i < n) : F i ≤ sumN n F := by
  induction n with
  | zero => omega
  | succ n ih =>
    rw [sumN]
    rcases Nat.lt_or_ge i n with h1 | h1
    · have := ih h1; omega
    · have : i = n := by omega
      subst this; omega
theorem sumN_split (a b : Nat) (F : Nat → Nat) : sumN (a + b) F = sumN a F + sumN b (fun j => F (a + j)) := by
  induction b with
  | zero => rfl
  | succ b ih => rw [← Nat.add_assoc, sumN, sumN, ih, Nat.add_assoc]
theorem sumN_le_len {a b : Nat} (h : a ≤ b) (F : Nat → Nat) : sumN a F ≤ sumN b F := by
  obtain ⟨c, rfl⟩ := Nat.le.dest h
  rw [sumN_split]; omega
/-- Values moved up by g. -/
def shiftF (o : Nat → Nat) (g k : Nat) : Nat := if g ≤ k then o (k - g) else 0
theorem sumN_shift (n g : Nat) (o : Nat → Nat) : sumN n (shiftF o g) ≤ sumN n o := by
  rcases Nat.lt_or_ge n g with h | h
  · rw [sumN_congr (G := fun _ => 0) (fun i hi => by rw [shiftF, if_neg (by omega)]), sumN_zero]; omega
  · obtain ⟨c, rfl⟩ := Nat.le.dest h
    rw [sumN_split, sumN_congr (n := g) (G := fun _ => 0) (fun i hi => by rw [shiftF, if_neg (by omega)]), sumN_zero, sumN_congr (n := c) (G := o) (fun i hi => by rw [shiftF, if_pos (by omega)]; congr 1; omega), Nat.zero_add]
    exact sumN_le_len (by omega) o
/-- All ways to share k between two. -/
def conv (f φ : Nat → Nat) (k : Nat) : Nat := sumN (k + 1) (fun i => f i * φ (k - i))
theorem conv_congr {f f' φ φ' : Nat → Nat} {k : Nat} (h : ∀ i, i ≤ k → f i = f' i) (h2 : ∀ i, i ≤ k → φ i = φ' i) : conv f φ k = conv f' φ' k :=
  sumN_congr fun i hi => by rw [h i (by omega), h2 (k - i) (by omega)]
theorem conv_add (f g φ : Nat → Nat) (k : Nat) : conv (fun i => f i + g i) φ k = conv f φ k + conv g φ k := by
  rw [conv, sumN_congr (G := fun i => f i * φ (k - i) + g i * φ (k - i)) (fun i _ => by rw [Nat.add_mul]), sumN_add]; rfl
theorem conv_addR (f φ ψ : Nat → Nat) (k : Nat) : conv f (fun i => φ i + ψ i) k = conv f φ k + conv f ψ k := by
  rw [conv, sumN_congr (G := fun i => f i * φ (k - i) + f i * ψ (k - i)) (fun i _ => by rw [Nat.mul_add]), sumN_add]; rfl
theorem conv_zero (φ : Nat → Nat) (k : Nat) : conv (fun _ => 0) φ k = 0 := by
  rw [conv, sumN_congr (G := fun _ => 0) (fun i _ => by rw [Nat.zero_mul]), sumN_zero]
theorem conv_zeroR (f : Nat → Nat) (k : Nat) : conv f (fun _ => 0) k = 0 := by
  rw [conv, sumN_congr (G := fun _ => 0) (fun i _ => by rw [Nat.mul_zero]), sumN_zero]
theorem conv_shiftL (o φ : Nat → Nat) (g k : Nat) : conv (shiftF o g) φ k = shiftF (conv o φ) g k := by
  rw [shiftF]
  by_cases h : g ≤ k
  · rw [if_pos h]
    obtain ⟨c, rfl⟩ := Nat.le.dest h
    rw [conv, show g + c + 1 = g + (c + 1) by omega, sumN_split, sumN_congr (n := g) (G := fun _ => 0) (fun i hi => by rw [shiftF, if_neg (by omega), Nat.zero_mul]), sumN_zero, Nat.zero_add, conv, show g + c - g = c by omega]
    refine sumN_congr fun i hi => ?_
    rw [shiftF, if_pos (by omega), show g + i - g = i by omega, show g + c - (g + i) = c - i by omega]
  · rw [if_neg h, conv, sumN_congr (G := fun _ => 0) (fun i hi => by rw [shiftF, if_neg (by omega), Nat.zero_mul]), sumN_zero]
theorem conv_shiftR (o φ : Nat → Nat) (g k : Nat) : conv o (shiftF φ g) k = shiftF (conv o φ) g k := by
  rw [shiftF]
  by_cases h : g ≤ k
  · rw [if_pos h]
    obtain ⟨c, rfl⟩ := Nat.le.dest h
    rw [conv, show g + c + 1 = (c + 1) + g by omega, sumN_split, sumN_congr (n := g) (G := fun _ => 0) (fun i hi => by rw [shiftF, if_neg (by omega), Nat.mul_zero]), sumN_zero, Nat.add_zero, conv, show g + c - g = c by omega]
    refine sumN_congr fun i hi => ?_
    rw [shiftF, if_pos (by omega), show g + c - i - g = c - i by omega]
  · rw [if_neg h, conv, sumN_congr (G := fun _ => 0) (fun i hi => by rw [shiftF, if_neg (by omega), Nat.mul_zero]), sumN_zero]
def oneAt0 (k : Nat) : Nat := if k = 0 then 1 else 0
theorem conv_one (f : Nat → Nat) (k : Nat) : conv f oneAt0 k = f k := by
  rw [conv, sumN, sumN_congr (G := fun _ => 0) (fun i hi => by rw [oneAt0, if_neg (by omega), Nat.mul_zero]), sumN_zero, oneAt0, if_pos (by omega)]; omega
theorem conv_one_l (φ : Nat → Nat) (k : Nat) : conv oneAt0 φ k = φ k := by
  rw [conv, show k + 1 = 1 + k by omega, sumN_split, sumN_congr (n := k) (G := fun _ => 0) (fun i hi => by rw [oneAt0, if_neg (by omega), Nat.zero_mul]), sumN_zero]
  simp [sumN, oneAt0]

section
variable {ε : Type}
/-- A sum over the ends of a list. -/
def sumE (L : List ε) (F : ε → Nat) : Nat := (L.map F).sum
theorem sumE_congr {L : List ε} {F G : ε → Nat} (h : ∀ e ∈ L, F e = G e) : sumE L F = sumE L G := by
  rw [sumE, sumE, List.map_congr_left h]
theorem sumE_zero (L : List ε) : sumE L (fun _ => 0) = 0 := by
  induction L with
  | nil => rfl
  | cons a L ih => simp only [sumE, List.map_cons, List.sum_cons] at ih ⊢; rw [ih]
theorem sumE_mono {L : List ε} {F G : ε → Nat} (h : ∀ e ∈ L, F e ≤ G e) : sumE L F ≤ sumE L G := by
  induction L with
  | nil => exact Nat.le_refl _
  | cons a L ih =>
    simp only [sumE, List.map_cons, List.sum_cons] at ih ⊢
    exact Nat.add_le_add (h a List.mem_cons_self) (ih fun e he => h e (List.mem_cons_of_mem _ he))
theorem sumE_add (L : List ε) (F G : ε → Nat) : sumE L (fun e => F e + G e) = sumE L F + sumE L G := by
  induction L with
  | nil => rfl
  | cons a L ih => simp only [sumE, List.map_cons, List.sum_cons] at ih ⊢; rw [ih]; omega
/-- One end's value is set to another one. -/
theorem sumE_set {L : List ε} (hn : L.Nodup) {a : ε} (ha : a ∈ L) (F G : ε → Nat) (h : ∀ e, e ≠ a → G e = F e) : sumE L G + F a = sumE L F + G a := by
  induction L with
  | nil => cases ha
  | cons b L ih =>
    simp only [sumE, List.map_cons, List.sum_cons] at ih ⊢
    rw [List.nodup_cons] at hn
    by_cases hb : b = a
    · subst hb
      have : sumE L G = sumE L F := sumE_congr fun e he => h e (fun q => hn.1 (q ▸ he))
      rw [sumE, sumE] at this
      omega
    · have ha' : a ∈ L := by
        rcases List.mem_cons.1 ha with q | q
        · exact absurd q.symm hb
        · exact q
      have := ih hn.2 ha'
      have h1 := h b hb
      omega
theorem sumE_one {L : List ε} {a : ε} (ha : a ∈ L) (F : ε → Nat) : F a ≤ sumE L F := by
  induction L with
  | nil => cases ha
  | cons b L ih =>
    simp only [sumE, List.map_cons, List.sum_cons] at ih ⊢
    rcases List.mem_cons.1 ha with rfl | q
    · omega
    · have := ih q; omega
/-- The end a is no longer pending. -/
theorem sumE_strike [DecidableEq ε] {L : List ε} (hn : L.Nodup) {a : ε} (ha : a ∈ L) (T : ε → Bool) (hT : T a = true) (F : ε → Nat) :
    sumE L (fun e => if T e = true then F e else 0) = F a + sumE L (fun e => if (T e && !decide (e = a)) = true then F e else 0) := by
  have := sumE_set hn ha (fun e => if T e = true then F e else 0) (fun e => if (T e && !decide (e = a)) = true then F e else 0) (fun e he => by simp [he])
  simp [hT] at this ⊢
  omega

/-- The ways to go on by one cell with a sign. -/
def contS (next : ε → Nat → Bool → ε × Nat × Bool) (φ : ε → Nat → Nat) (c : Nat) (e : ε) (m : Bool) (k : Nat) : Nat :=
  if (next e c m).2.2 = true then shiftF (φ (next e c m).1) (next e c m).2.1 k else 0
/-- The ways to go on by n cells from cell c on. -/
def goS (next : ε → Nat → Bool → ε × Nat × Bool) : Nat → Nat → ε → Nat → Nat
  | 0, _, _, k => oneAt0 k
  | n + 1, c, e, k => contS next (goS next n (c + 1)) c e true k + contS next (goS next n (c + 1)) c e false k
theorem goS_total (next : ε → Nat → Bool → ε × Nat × Bool) (N : Nat) : ∀ n c e, sumN N (goS next n c e) ≤ 2 ^ n
  | 0, c, e => by
    have h : ∀ m, sumN m oneAt0 ≤ 1 := by
      intro m
      cases m with
      | zero => exact Nat.zero_le _
      | succ m =>
        rw [show m + 1 = 1 + m by omega, sumN_split, sumN_congr (n := m) (G := fun _ => 0) (fun i _ => by rw [oneAt0, if_neg (by omega)]), sumN_zero]
        simp [sumN, oneAt0]
    exact h N
  | n + 1, c, e => by
    have h : ∀ m, sumN N (contS next (goS next n (c + 1)) c e m) ≤ 2 ^ n := by
      intro m
      unfold contS
      split
      · exact Nat.le_trans (sumN_shift _ _ _) (goS_total next N n (c + 1) _)
      · rw [sumN_zero]; exact Nat.zero_le _
    rw [show goS next (n + 1) c e = fun k => contS next (goS next n (c + 1)) c e true k + contS next (goS next n (c + 1)) c e false k from rfl, sumN_add, Nat.pow_succ]
    have := h true
    have := h false
    omega
/-- What the ends reached, each with its ways, come to. -/
def pot (ends : List ε) (f φ : ε → Nat → Nat) (k : Nat) : Nat := sumE ends fun e => conv (f e) (φ e) k
/-- What the ends still to come will come to. -/
def pend (ends : List ε) (T : ε → Bool) (f : ε → Nat → Nat) (ψ : ε → Nat → Nat) (k : Nat) : Nat := sumE ends fun e => if T e = true then conv (f e) (ψ e) k else 0
/-- All ways of an end, however many they add. -/
def tot (N : Nat) (ends : List ε) (f : ε → Nat → Nat) : Nat := sumE ends fun e => sumN N (f e)
def totT (N : Nat) (ends : List ε) (T : ε → Bool) (f : ε → Nat → Nat) : Nat := sumE ends fun e => if T e = true then sumN N (f e) else 0
/-- The ways o are added to those of the end a, moved up by g. -/
def addE [DecidableEq ε] (f : ε → Nat → Nat) (a : ε) (o : Nat → Nat) (g : Nat) (e : ε) (k : Nat) : Nat := if e = a then f a k + shiftF o g k else f e k
theorem pot_addE [DecidableEq ε] {ends : List ε} (hn : ends.Nodup) {a : ε} (ha : a ∈ ends) (f φ : ε → Nat → Nat) (o : Nat → Nat) (g k : Nat) : pot ends (addE f a o g) φ k = pot ends f φ k + shiftF (conv o (φ a)) g k := by
  have h := sumE_set hn ha (fun e => conv (f e) (φ e) k) (fun e => conv (addE f a o g e) (φ e) k) (fun e he => by rw [show addE f a o g e = f e by funext j; rw [addE, if_neg he]])
  have h2 : conv (addE f a o g a) (φ a) k = conv (f a) (φ a) k + shiftF (conv o (φ a)) g k := by
    rw [show addE f a o g a = fun j => f a j + shiftF o g j by funext j; rw [addE, if_pos rfl], conv_add, conv_shiftL]
  unfold pot
  simp only [h2] at h
  omega
theorem tot_addE [DecidableEq ε] {ends : List ε} (hn : ends.Nodup) {a : ε} (ha : a ∈ ends) (N : Nat) (f : ε → Nat → Nat) (o : Nat → Nat) (g : Nat) : tot N ends (addE f a o g) ≤ tot N ends f + sumN N o := by
  have h := sumE_set hn ha (fun e => sumN N (f e)) (fun e => sumN N (addE f a o g e)) (fun e he => by rw [show addE f a o g e = f e by funext j; rw [addE, if_neg he]])
  have h2 : sumN N (addE f a o g a) = sumN N (f a) + sumN N (shiftF o g) := by
    rw [show addE f a o g a = fun j => f a j + shiftF o g j by funext j; rw [addE, if_pos rfl], sumN_add]
  have h3 := sumN_shift N g o
  unfold tot
  simp only [h2] at h
  omega
theorem conv_contS (next : ε → Nat → Bool → ε × Nat × Bool) (φ : ε → Nat → Nat) (c : Nat) (e : ε) (m : Bool) (o : Nat → Nat) (k : Nat) :
    conv o (contS next φ c e m) k = if (next e c m).2.2 = true then shiftF (conv o (φ (next e c m).1)) (next e c m).2.1 k else 0 := by
  by_cases h : (next e c m).2.2 = true
  · rw [show contS next φ c e m = shiftF (φ (next e c m).1) (next e c m).2.1 by funext j; rw [contS, if_pos h], conv_shiftR, if_pos h]
  · rw [show contS next φ c e m = fun _ => 0 by funext j; rw [contS, if_neg h], conv_zeroR, if_neg h]
theorem pend_strike [DecidableEq ε] {ends : List ε} (hn : ends.Nodup) {a : ε} (ha : a ∈ ends) (T : ε → Bool) (hT : T a = true) (f ψ : ε → Nat → Nat) (k : Nat) :
    pend ends T f ψ k = conv (f a) (ψ a) k + pend ends (fun e => T e && !decide (e = a)) f ψ k := sumE_strike hn ha T hT _
theorem totT_strike [DecidableEq ε] {ends : List ε} (hn : ends.Nodup) {a : ε} (ha : a ∈ ends) (T : ε → Bool) (hT : T a = true) (N : Nat) (f : ε → Nat → Nat) :
    totT N ends T f = sumN N (f a) + totT N ends (fun e => T e && !decide (e = a)) f := sumE_strike hn ha T hT _
theorem pend_none {ends : List ε} {T : ε → Bool} (h : ∀ e ∈ ends, T e = false) (f ψ : ε → Nat → Nat) (k : Nat) : pend ends T f ψ k = 0 := by
  unfold pend
  rw [sumE_congr (G := fun _ => 0) (fun e he => by rw [h e he]; rfl), sumE_zero]
theorem tot_le {ends : List ε} {a : ε} (ha : a ∈ ends) {N k : Nat} (hk : k < N) (f : ε → Nat → Nat) : f a k ≤ tot N ends f :=
  Nat.le_trans (sumN_one (f a) hk) (sumE_one ha fun e => sumN N (f e))
end
end Go.Proofs.Ythlbplmghjaeoae
