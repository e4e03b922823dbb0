/- Strips: lists with a mine in a cell, counted from both sides (plain). -/
import Derived.Test.YtajabfegeeepeaaHF
namespace Go.Proofs.Ytajabfegeeepeaa

/-- So many, if so. -/
def gd (b : Bool) (x : Nat) : Nat := if b = true then x else 0
@[simp] theorem gd_true (x : Nat) : gd true x = x := rfl
@[simp] theorem gd_false (x : Nat) : gd false x = 0 := rfl
theorem gd_zero (b : Bool) : gd b 0 = 0 := by cases b <;> rfl
theorem gd_and (a b : Bool) (x : Nat) : gd (a && b) x = gd a (gd b x) := by cases a <;> rfl
theorem mul_gd (b : Bool) (x y : Nat) : x * gd b y = gd b x * y := by cases b <;> simp
section
variable {ε : Type}
/-- How many ways there are to go on by n cells, whatever they add. -/
def cntG (next : ε → Nat → Bool → ε × Nat × Bool) : Nat → Nat → ε → Nat
  | 0, _, _ => 1
  | n + 1, c, e => (gd ((next e c true).2.2) (cntG next n (c + 1) (next e c true).1)) + (gd ((next e c false).2.2) (cntG next n (c + 1) (next e c false).1))
theorem sumN_shift1 {N g : Nat} (hg : g ≤ 1) (hN : 1 ≤ N) (f : Nat → Nat) (h0 : g = 1 → sumN N f = sumN (N - 1) f) : sumN N (shiftF f g) = sumN N f := by
  rcases Nat.lt_or_ge g 1 with h | h
  · have : g = 0 := by omega
    subst this
    exact sumN_congr fun i _ => shiftF_nil f i
  · have : g = 1 := by omega
    subst this
    rw [h0 rfl]
    obtain ⟨m, rfl⟩ : ∃ m, N = 1 + m := ⟨N - 1, by omega⟩
    rw [sumN_split, show sumN 1 (shiftF f 1) = 0 by simp [sumN, shiftF], Nat.zero_add, show 1 + m - 1 = m by omega]
    refine sumN_congr fun i _ => ?_
    rw [shiftF, if_pos (by omega)]
    congr 1; omega
/-- Where the last cell adds nothing, n + 1 cells have at most n. -/
theorem goS_cnt (next : ε → Nat → Bool → ε × Nat × Bool) (hadd : ∀ e c m, (next e c m).2.1 = m.toNat) : ∀ n c e, (∀ e, (next e (c + n) true).2.2 = false) → ∀ N, n + 1 ≤ N → sumN N (goS next (n + 1) c e) = cntG next (n + 1) c e
  | 0, c, e, hz, N, hN => by
    have h1 : ∀ k, goS next (0 + 1) c e k = gd ((next e c false).2.2) (oneAt0 k) := by
      intro k
      have ht := hz e
      rw [Nat.add_zero] at ht
      show contS _ _ c e true k + contS _ _ c e false k = _
      rw [contS, ht, contS, hadd e c false]
      have hs0 : shiftF (goS next 0 (c + 1) (next e c false).1) false.toNat k = oneAt0 k := shiftF_nil oneAt0 k
      rw [hs0]
      cases (next e c false).2.2 <;> simp
    rw [show goS next (0 + 1) c e = fun k => gd ((next e c false).2.2) (oneAt0 k) from funext h1]
    have ht := hz e
    rw [Nat.add_zero] at ht
    rw [cntG, ht]
    cases (next e c false).2.2 with
    | false => simp [sumN_zero]
    | true =>
      simp only [gd_true, gd_false, cntG, Nat.zero_add]
      obtain ⟨m, rfl⟩ : ∃ m, N = 1 + m := ⟨N - 1, by omega⟩
      rw [sumN_split, sumN_congr (n := m) (G := fun _ => 0) (fun i _ => by rw [oneAt0, if_neg (by omega)]), sumN_zero]
      simp [sumN, oneAt0]
  | n + 1, c, e, hz, N, hN => by
    have ih := fun e' N' hN' => goS_cnt next hadd n (c + 1) e' (fun e'' => by rw [show c + 1 + n = c + (n + 1) by omega]; exact hz e'') N' hN'
    have hb : ∀ m, sumN N (contS next (goS next (n + 1) (c + 1)) c e m) = gd ((next e c m).2.2) (cntG next (n + 1) (c + 1) (next e c m).1) := by
      intro m
      by_cases h : (next e c m).2.2 = true
      · rw [h, gd_true, sumN_congr (G := shiftF (goS next (n + 1) (c + 1) (next e c m).1) (next e c m).2.1) (fun i _ => by rw [contS, if_pos h]), hadd,
          sumN_shift1 (by cases m <;> decide) (by omega) _ (fun _ => by rw [ih _ N (by omega), ih _ (N - 1) (by omega)]), ih _ N (by omega)]
      · rw [show (next e c m).2.2 = false by simpa using h, gd_false, sumN_congr (G := fun _ => 0) (fun i _ => by rw [contS, if_neg h]), sumN_zero]
    rw [show goS next (n + 1 + 1) c e = fun k => contS next (goS next (n + 1) (c + 1)) c e true k + contS next (goS next (n + 1) (c + 1)) c e false k from rfl, sumN_add, hb true, hb false]
    rfl
end

theorem next_add (s told : List UInt8) (e : Bool × Bool) (c : Nat) (m : Bool) : (nextM s told e c m).2.1 = m.toNat := rfl
theorem next_end (s told : List UInt8) (e : Bool × Bool) : (nextM s told e s.length true).2.2 = false := by
  rw [nextM]
  simp only [arA_end]
  simp [msB]
/-- All lists that fit, with the signs told. -/
def allC (s told : List UInt8) : Nat := cntG (nextM s told) (s.length + 1) 0 (false, false)
theorem fitW_all (s told : List UInt8) (h : s.length ≤ 40) : sumN 41 (fitW s told) = allC s told := by
  refine goS_cnt (nextM s told) (next_add s told) s.length 0 _ (fun e => ?_) 41 (by omega)
  rw [Nat.zero_add]
  exact next_end s told e

/-- The lists from the back, whatever mines they have. -/
def cE (s : List UInt8) : Nat → Bool → Bool → Nat
  | 0, _, next => if next = false then 1 else 0
  | j + 1, here, next => (gd (canM s (s.length - 1 - j) here next true) (cE s j next true)) + (gd (canM s (s.length - 1 - j) here next false) (cE s j next false))
theorem endS_cE (s : List UInt8) : ∀ j here next N, j + 2 ≤ N → sumN N (endS s j here next) = cE s j here next
  | 0, here, next, N, hN => by
    cases next with
    | true => rw [sumN_congr (G := fun _ => 0) (fun i _ => by simp [endS]), sumN_zero]; rfl
    | false =>
      obtain ⟨m, rfl⟩ : ∃ m, N = 2 + m := ⟨N - 2, by omega⟩
      rw [sumN_split, sumN_congr (n := m) (G := fun _ => 0) (fun i _ => by cases here <;> simp [endS] <;> omega), sumN_zero]
      cases here <;> simp [sumN, endS, cE]
  | j + 1, here, next, N, hN => by
    have ih := endS_cE s j
    have hb : ∀ b, sumN N (fun m => gd (canM s (s.length - 1 - j) here next b) (shiftF (endS s j next b) here.toNat m)) = gd (canM s (s.length - 1 - j) here next b) (cE s j next b) := by
      intro b
      by_cases h : canM s (s.length - 1 - j) here next b = true
      · simp only [h, gd_true]
        rw [sumN_shift1 (by cases here <;> decide) (by omega) _ (fun _ => by rw [ih _ _ N (by omega), ih _ _ (N - 1) (by omega)]), ih _ _ N (by omega)]
      · simp only [show canM s (s.length - 1 - j) here next b = false by simpa using h, gd_false]
        rw [sumN_zero]
    rw [show endS s (j + 1) here next = fun m => (gd (canM s (s.length - 1 - j) here next true) (shiftF (endS s j next true) here.toNat m)) + (gd (canM s (s.length - 1 - j) here next false) (shiftF (endS s j next false) here.toNat m)) from rfl, sumN_add, hb true, hb false]
    rfl
/-- From the back and from the front. -/
theorem cE_cnt {s : List UInt8} (hs : ∀ c ∈ s, stB c = true) : ∀ j, j + 1 ≤ s.length → ∀ here next,
    (gd (msB (arA s (s.length - j + 1)) next) (cntG (nextM s []) j (s.length - j + 1) (here, next))) = cE s j here next
  | 0, h, here, next => by
    rw [Nat.sub_zero, arA_end]
    cases next <;> simp [msB, cntG, cE]
  | j + 1, h, here, next => by
    have ih := cE_cnt hs j (by omega)
    obtain ⟨c, hcq⟩ : ∃ c, s.length - 1 - j = c := ⟨_, rfl⟩
    have e1 : s.length - (j + 1) + 1 = c + 1 := by omega
    have e2 : s.length - j + 1 = c + 1 + 1 := by omega
    have hc : c < s.length := by omega
    rw [e2] at ih
    rw [e1, cE, hcq]
    have hg : ∀ b : Bool, (gd (canM s c here next b) (cE s j next b)) = gd (msB (arA s (c + 1)) next) ((gd ((nextM s [] (here, next) (c + 1) b).2.2) (cntG (nextM s []) j (c + 1 + 1) (nextM s [] (here, next) (c + 1) b).1))) := by
      intro b
      rw [can_split hs hc, nextM, tdB_behind (Nat.zero_le _), Bool.true_and, ← ih next b]
      cases h1 : msB (arA s (c + 1)) next <;> cases h2 : mnB (arA s (c + 1)) (here.toNat + b.toNat) <;> cases h3 : msB (arA s (c + 1 + 1)) b <;> simp
    rw [hg true, hg false, cntG]
    cases msB (arA s (c + 1)) next <;> simp

/-- May the sign z stand at step c behind x and y? -/
def okS (s : List UInt8) (c : Nat) (x z : Bool) : Bool := msB (arA s (c + 1)) z && mnB (arA s c) (x.toNat + z.toNat)
theorem next_ok (s told : List UInt8) (x y : Bool) (c : Nat) (z : Bool) : (nextM s told (x, y) c z).2.2 = (tdB told c z && okS s c x z) := rfl
theorem next_to (s told : List UInt8) (x y : Bool) (c : Nat) (z : Bool) : (nextM s told (x, y) c z).1 = (y, z) := rfl
/-- The first c cells, by the signs of the last two. -/
def bk (s told : List UInt8) : Nat → Bool → Bool → Nat
  | 0, x, y => if x = false ∧ y = false then 1 else 0
  | c + 1, y, z => (gd ((tdB told c z && okS s c true z)) (bk s told c true y)) + (gd ((tdB told c z && okS s c false z)) (bk s told c false y))
/-- The first n cells, and those behind them. -/
theorem cnt_split (s told : List UInt8) (m : Nat) : ∀ n,
    cntG (nextM s told) (n + m) 0 (false, false) = (bk s told n true true * cntG (nextM s told) m n (true, true) + bk s told n true false * cntG (nextM s told) m n (true, false)) + (bk s told n false true * cntG (nextM s told) m n (false, true) + bk s told n false false * cntG (nextM s told) m n (false, false)) := by
  intro n
  induction n generalizing m with
  | zero => simp [bk]
  | succ n ih =>
    have h := ih (m + 1)
    rw [show n + (m + 1) = n + 1 + m by omega] at h
    rw [h]
    simp only [cntG, next_ok, next_to, bk, Nat.mul_add, Nat.add_mul, mul_gd]
    omega
/-- What is told behind the cells that are counted does not matter. -/
theorem bk_told (s told : List UInt8) : ∀ n, (∀ c, c < n → ∀ z, tdB told c z = true) → ∀ x y, bk s told n x y = bk s [] n x y
  | 0, _, _, _ => rfl
  | n + 1, h, y, z => by
    have ih := bk_told s told n (fun c hc => h c (by omega))
    rw [bk, bk, ih, ih, h n (by omega), tdB_behind (Nat.zero_le _)]
theorem cnt_told (s told : List UInt8) : ∀ n c e, told.length ≤ c → cntG (nextM s told) n c e = cntG (nextM s []) n c e
  | 0, _, _, _ => rfl
  | n + 1, c, e, h => by
    have h1 : ∀ m, nextM s told e c m = nextM s [] e c m := fun m => by rw [nextM, nextM, tdB_behind h, tdB_behind (Nat.zero_le _)]
    rw [cntG, cntG, h1 true, h1 false, cnt_told s told n (c + 1) _ (by omega), cnt_told s told n (c + 1) _ (by omega)]

theorem rev_ar (s : List UInt8) {i : Nat} (h : i < s.length) : arA s.reverse (s.length - 1 - i + 1) = arA s (i + 1) := by
  rw [arA_cell s.reverse (by rw [List.length_reverse]; omega), arA_cell s h, List.getElem_reverse]
  congr 1; omega
theorem rev_good {s : List UInt8} (hs : ∀ c ∈ s, stB c = true) : ∀ c ∈ s.reverse, stB c = true := fun c hc => hs c (List.mem_reverse.1 hc)
/-- The first cells are counted by the strip told backwards. -/
theorem bk_back {s : List UInt8} (hs : ∀ c ∈ s, stB c = true) : ∀ j, j < s.length → ∀ x y, bk s [] (j + 1) x y = gd (msB (arA s (j + 1)) y) (cE s.reverse j y x)
  | 0, h, x, y => by
    have e0 : ∀ n, mnB 46 n = true := fun n => by simp [mnB]
    have et : tdB [] 0 y = true := tdB_behind (Nat.zero_le _) y
    simp only [bk, et, Bool.true_and, okS, arA_zero, cE, e0, Bool.and_true]
    cases x <;> cases msB (arA s (0 + 1)) y <;> simp
  | j + 1, h, y, z => by
    have ih := bk_back hs j (by omega)
    have hcan : ∀ x, canM s.reverse (s.length - 1 - j) z y x = (msB (arA s (j + 1)) y && mnB (arA s (j + 1)) (z.toNat + x.toNat)) := fun x => by
      rw [can_split (rev_good hs) (by rw [List.length_reverse]; omega), rev_ar s (by omega)]
    have et : tdB [] (j + 1) z = true := tdB_behind (Nat.zero_le _) z
    rw [bk, ih, ih, cE, List.length_reverse, hcan, hcan]
    simp only [et, Bool.true_and, okS]
    rw [Nat.add_comm z.toNat, Nat.add_comm z.toNat]
    cases msB (arA s (j + 1)) y <;> cases msB (arA s (j + 1 + 1)) z <;> cases mnB (arA s (j + 1)) (true.toNat + z.toNat) <;> cases mnB (arA s (j + 1)) (false.toNat + z.toNat) <;> simp

/-- A mine is told for a cell, and nothing else. -/
def atT (cell : Nat) : List UInt8 := List.replicate cell 63 ++ [42]
theorem atT_len (cell : Nat) : (atT cell).length = cell + 1 := by simp [atT]
theorem atT_free {cell c : Nat} (h : c < cell) (z : Bool) : tdB (atT cell) c z = true := by
  have : (atT cell).getD c 0 = 63 := by simp [atT, List.getD, List.getElem?_append_left, h]
  rw [tdB, this]
  simp
theorem atT_mine (cell : Nat) (z : Bool) : tdB (atT cell) cell z = z := by
  have : (atT cell).getD cell 0 = 42 := by simp [atT, List.getD]
  rw [tdB, this, atT_len]
  cases z <;> simp [sgM]
/-- What the model counts: the cells before it and behind it. -/
def stA (s : List UInt8) (cell : Nat) (x b : Bool) : Nat := gd (canM s cell x true b) (cE s.reverse cell true x * cE s (s.length - 1 - cell) true b)
def stAtM (s : List UInt8) (cell : Nat) : Nat := (stA s cell false false + stA s cell false true) + (stA s cell true false + stA s cell true true)
theorem cnt_at {s : List UInt8} (hs : ∀ c ∈ s, stB c = true) {cell : Nat} (h : cell < s.length) : allC s (atT cell) = stAtM s cell := by
  have h0 := cnt_split s (atT cell) (s.length - 1 - cell + 1) (cell + 1)
  rw [show cell + 1 + (s.length - 1 - cell + 1) = s.length + 1 by omega] at h0
  rw [allC, h0]
  have hbt : ∀ x, bk s (atT cell) (cell + 1) x true = gd (msB (arA s (cell + 1)) true) (cE s.reverse cell true x) := by
    intro x
    rw [← bk_back hs cell h x true]
    simp only [bk]
    rw [bk_told s (atT cell) cell (fun c hc z => atT_free hc z), bk_told s (atT cell) cell (fun c hc z => atT_free hc z), atT_mine, tdB_behind (Nat.zero_le _)]
  have hbf : ∀ x, bk s (atT cell) (cell + 1) x false = 0 := by
    intro x
    rw [bk, atT_mine]
    simp
  have hc : ∀ x, cntG (nextM s (atT cell)) (s.length - 1 - cell + 1) (cell + 1) (x, true) = (gd (mnB (arA s (cell + 1)) (x.toNat + true.toNat)) (cE s (s.length - 1 - cell) true true)) + (gd (mnB (arA s (cell + 1)) (x.toNat + false.toNat)) (cE s (s.length - 1 - cell) true false)) := by
    intro x
    rw [cnt_told s (atT cell) _ _ _ (by rw [atT_len]; omega), cntG]
    have he := cE_cnt hs (s.length - 1 - cell) (by omega) true
    rw [show s.length - (s.length - 1 - cell) + 1 = cell + 1 + 1 by omega] at he
    have hb : ∀ b, (gd ((nextM s [] (x, true) (cell + 1) b).2.2) (cntG (nextM s []) (s.length - 1 - cell) (cell + 1 + 1) (nextM s [] (x, true) (cell + 1) b).1)) = gd (mnB (arA s (cell + 1)) (x.toNat + b.toNat)) (cE s (s.length - 1 - cell) true b) := by
      intro b
      rw [next_ok, next_to, tdB_behind (Nat.zero_le _), Bool.true_and, okS, ← he b]
      cases msB (arA s (cell + 1 + 1)) b <;> cases mnB (arA s (cell + 1)) (x.toNat + b.toNat) <;> simp
    rw [hb true, hb false]
  have hA : ∀ x b, stA s cell x b = (gd (msB (arA s (cell + 1)) true) (cE s.reverse cell true x)) * (gd (mnB (arA s (cell + 1)) (x.toNat + b.toNat)) (cE s (s.length - 1 - cell) true b)) := by
    intro x b
    rw [stA, can_split hs h]
    cases msB (arA s (cell + 1)) true <;> cases mnB (arA s (cell + 1)) (x.toNat + b.toNat) <;> simp
  rw [hbf, hbf, hbt, hbt, hc, hc, stAtM, hA, hA, hA, hA]
  simp only [Nat.mul_add]
  omega

/-- What is told only takes ways away. -/
theorem goS_le (s told : List UInt8) : ∀ n c e k, goS (nextM s told) n c e k ≤ goS (nextM s []) n c e k
  | 0, _, _, _ => Nat.le_refl _
  | n + 1, c, e, k => by
    have hb : ∀ m, contS (nextM s told) (goS (nextM s told) n (c + 1)) c e m k ≤ contS (nextM s []) (goS (nextM s []) n (c + 1)) c e m k := by
      intro m
      obtain ⟨x, y⟩ := e
      have et : tdB [] c m = true := tdB_behind (Nat.zero_le _) m
      rw [contS, contS, next_ok, next_ok, next_to, next_to, next_add, next_add, et, Bool.true_and]
      have hle : shiftF (goS (nextM s told) n (c + 1) (y, m)) m.toNat k ≤ shiftF (goS (nextM s []) n (c + 1) (y, m)) m.toNat k := by
        unfold shiftF
        split
        · exact goS_le s told n (c + 1) _ _
        · exact Nat.le_refl _
      cases tdB told c m <;> cases okS s c x m <;> simp [hle]
    exact Nat.add_le_add (hb true) (hb false)
theorem fitW_le (s told : List UInt8) (k : Nat) : fitW s told k ≤ fitW s [] k := goS_le s told _ _ _ k
/-- Ways of which none is more are all the same just if they are as many. -/
theorem sumN_eq {n : Nat} {F G : Nat → Nat} (h : ∀ i, i < n → F i ≤ G i) : sumN n F = sumN n G ↔ ∀ i, i < n → F i = G i := by
  induction n with
  | zero => exact ⟨fun _ i hi => absurd hi (by omega), fun _ => rfl⟩
  | succ n ih =>
    have ih := ih (fun i hi => h i (by omega))
    have hn := h n (by omega)
    have hm := sumN_mono (n := n) (F := F) (G := G) (fun i hi => h i (by omega))
    simp only [sumN]
    constructor
    · intro e
      have e1 : sumN n F = sumN n G := by omega
      have e2 : F n = G n := by omega
      intro i hi
      by_cases q : i = n
      · rw [q]; exact e2
      · exact ih.1 e1 i (by omega)
    · intro e
      rw [ih.2 (fun i hi => e i (by omega)), e n (by omega)]
theorem sumN_none {n : Nat} {F : Nat → Nat} : sumN n F = 0 ↔ ∀ i, i < n → F i = 0 := by
  have := sumN_eq (n := n) (F := fun _ => 0) (G := F) (fun i _ => Nat.zero_le _)
  rw [sumN_zero] at this
  exact ⟨fun e i hi => ((this.1 e.symm) i hi).symm, fun e => (this.2 (fun i hi => (e i hi).symm)).symm⟩
end Go.Proofs.Ytajabfegeeepeaa
