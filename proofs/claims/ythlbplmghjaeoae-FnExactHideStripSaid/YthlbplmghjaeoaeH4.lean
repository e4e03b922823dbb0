/- Strips: lists of mines that fit, counted from the front and from the back (plain). -/
import Derived.Test.YthlbplmghjaeoaeH1
namespace Go.Proofs.Ythlbplmghjaeoae

/-- The sign of a cell with a mine or without one. -/
def sgM (m : Bool) : UInt8 := if m = true then 42 else 46
/-- Is a text a strip? -/
def stB (c : UInt8) : Bool := c == 63 || (48 ≤ c && c ≤ 50)
def stM (s : List UInt8) : Bool := decide (1 ≤ s.length) && (decide (s.length ≤ 40) && s.all stB)
theorem stM_facts {s : List UInt8} (h : stM s = true) : 1 ≤ s.length ∧ s.length ≤ 40 ∧ ∀ c ∈ s, stB c = true := by
  unfold stM at h
  simp at h
  exact ⟨h.1, h.2.1, h.2.2⟩
theorem stB_cases {c : UInt8} (h : stB c = true) : c = 63 ∨ c = 48 ∨ c = 49 ∨ c = 50 := by
  have e : ∀ c : UInt8, stB c = true → c = 63 ∨ c = 48 ∨ c = 49 ∨ c = 50 := by
    intro c
    have hx : ∀ n : Fin 256, stB (UInt8.ofNat n.val) = true → UInt8.ofNat n.val = 63 ∨ UInt8.ofNat n.val = 48 ∨ UInt8.ofNat n.val = 49 ∨ UInt8.ofNat n.val = 50 := by decide +kernel
    have := hx ⟨c.toNat, c.toNat_lt⟩
    simpa using this
  exact e c h

/-- What stands at a cell of a text, a free cell before it and behind it; cells are counted from 1. -/
def arM (s : List UInt8) : List UInt8 := 46 :: (s ++ [46])
def arA (s : List UInt8) (i : Nat) : UInt8 := (arM s).getD i 46
theorem arA_zero (s : List UInt8) : arA s 0 = 46 := rfl
theorem arA_cell (s : List UInt8) {i : Nat} (h : i < s.length) : arA s (i + 1) = s[i] := by
  simp [arA, arM, List.getD, List.getElem?_append_left h, h]
theorem arA_end (s : List UInt8) : arA s (s.length + 1) = 46 := by simp [arA, arM, List.getD]

/-- A mine may be in a cell only if it is unknown. -/
def msB (c : UInt8) (m : Bool) : Bool := (c == 63) || !m
/-- Any number may be in a cell that is not open. -/
def mnB (c : UInt8) (n : Nat) : Bool := (!(decide (48 ≤ c.toNat) && decide (c.toNat ≤ 56))) || (c.toNat == 48 + n)
/-- The sign that is told for a cell, if one is. -/
def tdB (told : List UInt8) (i : Nat) (m : Bool) : Bool := decide (told.length ≤ i) || (told.getD i 0 == 63 || told.getD i 0 == sgM m)
/-- How a list of mines goes on by a cell. -/
def nextM (s told : List UInt8) (e : Bool × Bool) (c : Nat) (m : Bool) : (Bool × Bool) × Nat × Bool :=
  ((e.2, m), m.toNat, tdB told c m && (msB (arA s (c + 1)) m && mnB (arA s c) (e.1.toNat + m.toNat)))
/-- How many lists of mines fit, with the signs told, by how many mines they have. -/
def fitW (s told : List UInt8) (k : Nat) : Nat := goS (nextM s told) (s.length + 1) 0 (false, false) k

/-- May a cell have a mine or not, with its neighbours? -/
def canM (s : List UInt8) (c : Nat) (b h n : Bool) : Bool := (s.getD c 0 == 63) || (!h && (48 + (b.toNat + n.toNat) == (s.getD c 0).toNat))
theorem can_split {s : List UInt8} (hs : ∀ c ∈ s, stB c = true) {c : Nat} (hc : c < s.length) (b h n : Bool) :
    canM s c b h n = (msB (arA s (c + 1)) h && mnB (arA s (c + 1)) (b.toNat + n.toNat)) := by
  have hg : s.getD c 0 = s[c] := by simp [List.getD, hc]
  rw [canM, hg, arA_cell s hc]
  rcases stB_cases (hs _ (List.getElem_mem hc)) with e | e | e | e <;> rw [e] <;> cases b <;> cases h <;> cases n <;> decide

/-- The lists from the back: j cells lie behind the next one. -/
def endS (s : List UInt8) : Nat → Bool → Bool → Nat → Nat
  | 0, here, next, m => if next = false ∧ m = here.toNat then 1 else 0
  | j + 1, here, next, m => (if canM s (s.length - 1 - j) here next true = true then shiftF (endS s j next true) here.toNat m else 0) + (if canM s (s.length - 1 - j) here next false = true then shiftF (endS s j next false) here.toNat m else 0)

theorem shiftF_shift (f : Nat → Nat) (a b k : Nat) : shiftF (shiftF f a) b k = shiftF f (b + a) k := by
  unfold shiftF
  by_cases h : b ≤ k
  · rw [if_pos h]
    by_cases h2 : a ≤ k - b
    · rw [if_pos h2, if_pos (by omega)]; congr 1; omega
    · rw [if_neg h2, if_neg (by omega)]
  · rw [if_neg h, if_neg (by omega)]
theorem shiftF_zero (g k : Nat) : shiftF (fun _ => 0) g k = 0 := by unfold shiftF; split <;> rfl
theorem shiftF_congr {f f' : Nat → Nat} (h : ∀ i, f i = f' i) (g k : Nat) : shiftF f g k = shiftF f' g k := by rw [show f = f' from funext h]
theorem shiftF_add (f f' : Nat → Nat) (g k : Nat) : shiftF (fun i => f i + f' i) g k = shiftF f g k + shiftF f' g k := by unfold shiftF; split <;> rfl
theorem shiftF_if (p : Prop) [Decidable p] (f : Nat → Nat) (g k : Nat) : shiftF (fun i => if p then f i else 0) g k = if p then shiftF f g k else 0 := by
  by_cases h : p
  · simp only [h, if_true]
  · simp only [h, if_false]; exact shiftF_zero g k
theorem shiftF_nil (f : Nat → Nat) (k : Nat) : shiftF f 0 k = f k := by unfold shiftF; simp

theorem tdB_behind {told : List UInt8} {c : Nat} (h : told.length ≤ c) (m : Bool) : tdB told c m = true := by
  rw [tdB, decide_eq_true h]; rfl
theorem goS_told (s told : List UInt8) : ∀ n c e, told.length ≤ c → goS (nextM s told) n c e = goS (nextM s []) n c e
  | 0, _, _, _ => rfl
  | n + 1, c, e, h => by
    have h1 : ∀ m, nextM s told e c m = nextM s [] e c m := fun m => by rw [nextM, nextM, tdB_behind h, tdB_behind (Nat.zero_le _)]
    funext k
    show contS _ _ c e true k + contS _ _ c e false k = contS _ _ c e true k + contS _ _ c e false k
    unfold contS
    rw [h1 true, h1 false, goS_told s told n (c + 1) _ (by omega), goS_told s told n (c + 1) _ (by omega)]

/-- From the back and from the front the same lists are counted. -/
theorem endS_go {s : List UInt8} (hs : ∀ c ∈ s, stB c = true) : ∀ j, j + 1 ≤ s.length → ∀ here next m,
    endS s j here next m = if msB (arA s (s.length - j + 1)) next = true then shiftF (goS (nextM s []) j (s.length - j + 1) (here, next)) (here.toNat + next.toNat) m else 0
  | 0, h, here, next, m => by
    rw [Nat.sub_zero, arA_end, endS]
    show _ = if _ then shiftF oneAt0 _ _ else 0
    unfold shiftF oneAt0 msB
    cases here <;> cases next <;> simp
    · by_cases hm : 1 ≤ m
      · by_cases h1 : m = 1
        · simp [h1]
        · rw [if_neg h1, if_pos hm, if_neg (by omega)]
      · rw [if_neg (by omega), if_neg hm]
  | j + 1, h, here, next, m => by
    have ih := endS_go hs j (by omega)
    obtain ⟨c, hcq⟩ : ∃ c, s.length - 1 - j = c := ⟨_, rfl⟩
    have e1 : s.length - (j + 1) + 1 = c + 1 := by omega
    have e2 : s.length - j + 1 = c + 1 + 1 := by omega
    have hc : c < s.length := by omega
    rw [e2] at ih
    rw [e1, endS, hcq]
    have hg : ∀ b : Bool, (if canM s c here next b = true then shiftF (endS s j next b) here.toNat m else 0) = if msB (arA s (c + 1)) next = true then shiftF (contS (nextM s []) (goS (nextM s []) j (c + 1 + 1)) (c + 1) (here, next) b) (here.toNat + next.toNat) m else 0 := by
      intro b
      rw [can_split hs hc]
      cases h1 : msB (arA s (c + 1)) next with
      | false => simp
      | true =>
        rw [Bool.true_and, if_pos rfl]
        have hn : ∀ i, contS (nextM s []) (goS (nextM s []) j (c + 1 + 1)) (c + 1) (here, next) b i = if (msB (arA s (c + 1 + 1)) b && mnB (arA s (c + 1)) (here.toNat + b.toNat)) = true then shiftF (goS (nextM s []) j (c + 1 + 1) (next, b)) b.toNat i else 0 := fun i => by
          rw [contS, nextM, tdB_behind (Nat.zero_le _), Bool.true_and]
        rw [shiftF_congr hn, shiftF_if, shiftF_shift]
        cases h2 : mnB (arA s (c + 1)) (here.toNat + b.toNat) with
        | false => simp
        | true =>
          rw [if_pos rfl, Bool.and_true, shiftF_congr (ih next b), shiftF_if, shiftF_shift, show here.toNat + (next.toNat + b.toNat) = here.toNat + next.toNat + b.toNat by omega]
    rw [hg true, hg false]
    by_cases hm : msB (arA s (c + 1)) next = true
    · rw [if_pos hm, if_pos hm, if_pos hm, ← shiftF_add]; rfl
    · rw [if_neg hm, if_neg hm, if_neg hm]

/-- Signs that are told for the next cells: may they be there? -/
def frc (s : List UInt8) : List Bool → Nat → Bool × Bool → Bool
  | [], _, _ => true
  | m :: t, c, e => (msB (arA s (c + 1)) m && mnB (arA s c) (e.1.toNat + m.toNat)) && frc s t (c + 1) (e.2, m)
/-- The end that they make, and how many mines they have. -/
def endF : List Bool → Bool × Bool → Bool × Bool
  | [], e => e
  | m :: t, e => endF t (e.2, m)
def cntF : List Bool → Nat
  | [] => 0
  | m :: t => m.toNat + cntF t
theorem cntF_snoc (t : List Bool) (m : Bool) : cntF (t ++ [m]) = cntF t + m.toNat := by
  induction t with
  | nil => simp [cntF]
  | cons a t ih => rw [List.cons_append, cntF, cntF, ih]; omega
theorem endF_snoc (t : List Bool) (m : Bool) (e : Bool × Bool) : endF (t ++ [m]) e = ((endF t e).2, m) := by
  induction t generalizing e with
  | nil => rfl
  | cons a t ih => rw [List.cons_append, endF, endF, ih]
theorem frc_snoc (s : List UInt8) (t : List Bool) (m : Bool) : ∀ c e, frc s (t ++ [m]) c e = (frc s t c e && (msB (arA s (c + t.length + 1)) m && mnB (arA s (c + t.length)) ((endF t e).1.toNat + m.toNat))) := by
  induction t with
  | nil => intro c e; simp [frc, endF]
  | cons a t ih =>
    intro c e
    rw [List.cons_append, frc, frc, ih, List.length_cons, endF, show c + 1 + t.length = c + (t.length + 1) by omega]
    simp only [Bool.and_assoc]
theorem sgM_inj (a b : Bool) : (sgM a == 63 || sgM a == sgM b) = (a == b) := by cases a <;> cases b <;> decide
theorem goS_forced (s told : List UInt8) (N : Nat) : ∀ (t : List Bool) (c : Nat) (e : Bool × Bool) (k : Nat), (∀ i (h : i < t.length), c + i < told.length ∧ told.getD (c + i) 0 = sgM t[i]) →
    goS (nextM s told) (t.length + N) c e k = if frc s t c e = true then shiftF (goS (nextM s told) N (c + t.length) (endF t e)) (cntF t) k else 0
  | [], c, e, k, _ => by
    simp only [List.length_nil, Nat.zero_add, Nat.add_zero, frc, endF, cntF, if_true]
    rw [shiftF_nil]
  | m :: t, c, e, k, h => by
    have h0 := h 0 (by simp)
    simp only [Nat.add_zero, List.getElem_cons_zero] at h0
    have ih := fun e' k' => goS_forced s told N t (c + 1) e' k' (fun i hi => by
      have := h (i + 1) (by simpa using hi)
      simp only [List.getElem_cons_succ] at this
      rw [show c + 1 + i = c + (i + 1) by omega]
      exact this)
    have hb : ∀ b, contS (nextM s told) (goS (nextM s told) (t.length + N) (c + 1)) c e b k = if b = m then (if ((msB (arA s (c + 1)) m && mnB (arA s c) (e.1.toNat + m.toNat)) && frc s t (c + 1) (e.2, m)) = true then shiftF (goS (nextM s told) N (c + 1 + t.length) (endF t (e.2, m))) (m.toNat + cntF t) k else 0) else 0 := by
      intro b
      have ht : tdB told c b = (m == b) := by
        rw [tdB, decide_eq_false (by omega), h0.2, Bool.false_or, sgM_inj]
      rw [contS, nextM, ht]
      by_cases hbm : b = m
      · subst hbm
        rw [if_pos rfl]
        simp only [beq_self_eq_true, Bool.true_and]
        cases hq : (msB (arA s (c + 1)) b && mnB (arA s c) (e.1.toNat + b.toNat)) with
        | false => simp
        | true =>
          rw [if_pos rfl, Bool.true_and, shiftF_congr (ih (e.2, b)), shiftF_if, shiftF_shift]
      · rw [if_neg hbm]
        have : (m == b) = false := by cases m <;> cases b <;> simp_all
        simp [this]
    rw [List.length_cons, show t.length + 1 + N = (t.length + N) + 1 by omega, goS, hb true, hb false, frc, endF, cntF, show c + (t.length + 1) = c + 1 + t.length by omega]
    cases m <;> simp
/-- With signs told for the first cells: what the last of them and what is behind it come to. -/
theorem fitW_told (s : List UInt8) (t : List Bool) (h : t.length ≤ s.length) (k : Nat) :
    fitW s (t.map sgM) k = if frc s t 0 (false, false) = true then shiftF (goS (nextM s []) (s.length + 1 - t.length) t.length (endF t (false, false))) (cntF t) k else 0 := by
  have hl : (t.map sgM).length = t.length := List.length_map ..
  rw [fitW, show s.length + 1 = t.length + (s.length + 1 - t.length) by omega, goS_forced s (t.map sgM) (s.length + 1 - t.length) t 0 (false, false) k (fun i hi => by
    rw [Nat.zero_add, hl]
    exact ⟨hi, by simp [List.getD, hi]⟩), Nat.zero_add, goS_told s (t.map sgM) _ t.length _ (by omega), show t.length + (s.length + 1 - t.length) - t.length = s.length + 1 - t.length by omega]
/-- What the model does with the last sign that is told. -/
def lastS (s : List UInt8) (t : List Bool) (q : Bool) (K : Nat) (next : Bool) : Nat :=
  if canM s t.length (endF t (false, false)).2 q next = true then shiftF (endS s (s.length - 1 - t.length) q next) (cntF t) K else 0
/-- The cells before the last one that is told fit. -/
def preS (s : List UInt8) (t : List Bool) (q : Bool) : Bool := frc s (t ++ [q]) 0 (false, false)
theorem fitW_last {s : List UInt8} (hs : ∀ c ∈ s, stB c = true) (t : List Bool) (q : Bool) (h : t.length < s.length) (hms : frc s (t ++ [q]) 0 (false, false) = true) (K : Nat) :
    fitW s ((t ++ [q]).map sgM) K = lastS s t q K true + lastS s t q K false := by
  have hl : (t ++ [q]).length = t.length + 1 := by simp
  rw [fitW_told s (t ++ [q]) (by omega), if_pos hms, hl, endF_snoc, cntF_snoc, show s.length + 1 - (t.length + 1) = (s.length - 1 - t.length) + 1 by omega]
  have hms2 : msB (arA s (t.length + 1)) q = true := by
    rw [frc_snoc, Nat.zero_add] at hms
    simp at hms
    exact hms.2.1
  have hg : ∀ b, shiftF (contS (nextM s []) (goS (nextM s []) (s.length - 1 - t.length) (t.length + 1 + 1)) (t.length + 1) ((endF t (false, false)).2, q) b) (cntF t + q.toNat) K = lastS s t q K b := by
    intro b
    have hn : ∀ i, contS (nextM s []) (goS (nextM s []) (s.length - 1 - t.length) (t.length + 1 + 1)) (t.length + 1) ((endF t (false, false)).2, q) b i = if (msB (arA s (t.length + 1 + 1)) b && mnB (arA s (t.length + 1)) ((endF t (false, false)).2.toNat + b.toNat)) = true then shiftF (goS (nextM s []) (s.length - 1 - t.length) (t.length + 1 + 1) (q, b)) b.toNat i else 0 := fun i => by
      rw [contS, nextM, tdB_behind (Nat.zero_le _), Bool.true_and]
    rw [shiftF_congr hn, shiftF_if, shiftF_shift, lastS, can_split hs h, hms2, Bool.true_and]
    have he := endS_go hs (s.length - 1 - t.length) (by omega) q b
    rw [show s.length - (s.length - 1 - t.length) + 1 = t.length + 1 + 1 by omega] at he
    rw [shiftF_congr he, shiftF_if, shiftF_shift]
    cases h1 : msB (arA s (t.length + 1 + 1)) b <;> cases h2 : mnB (arA s (t.length + 1)) ((endF t (false, false)).2.toNat + b.toNat) <;> simp [Nat.add_assoc]
  rw [← hg true, ← hg false, ← shiftF_add]
  rfl
/-- With no sign told. -/
theorem fitW_first {s : List UInt8} (hs : ∀ c ∈ s, stB c = true) (h : 1 ≤ s.length) (K : Nat) :
    fitW s [] K = ((if canM s 0 false true true = true then endS s (s.length - 1) true true K else 0) + (if canM s 0 false true false = true then endS s (s.length - 1) true false K else 0)) + ((if canM s 0 false false true = true then endS s (s.length - 1) false true K else 0) + (if canM s 0 false false false = true then endS s (s.length - 1) false false K else 0)) := by
  have hg : ∀ q, contS (nextM s []) (goS (nextM s []) s.length (0 + 1)) 0 (false, false) q K = (if canM s 0 false q true = true then endS s (s.length - 1) q true K else 0) + (if canM s 0 false q false = true then endS s (s.length - 1) q false K else 0) := by
    intro q
    have hf := fitW_last hs [] q h
    have e0 : mnB (arA s 0) ((false, false).1.toNat + q.toNat) = true := by rw [arA_zero]; cases q <;> decide
    rw [contS, nextM, tdB_behind (Nat.zero_le _), Bool.true_and, e0, Bool.and_true]
    have hfrc : frc s ([] ++ [q]) 0 (false, false) = msB (arA s (0 + 1)) q := by
      rw [List.nil_append, frc, frc, e0, Bool.and_true, Bool.and_true]
    have htl : ∀ (b : Bool), (if canM s 0 false q b = true then endS s (s.length - 1) q b K else 0) = lastS s [] q K b := fun b => by
      rw [lastS]
      simp only [List.length_nil, endF, cntF, Nat.sub_zero]
      rw [shiftF_nil]; rfl
    rw [htl, htl]
    cases hm : msB (arA s (0 + 1)) q with
    | false =>
      have h0 : ∀ b, canM s 0 false q b = false := fun b => by rw [can_split hs h, show (0 : Nat) + 1 = 0 + 1 from rfl, hm]; rfl
      simp only [lastS, List.length_nil, endF, h0]
      simp
    | true =>
      rw [if_pos rfl, ← hf (by rw [hfrc, hm]), fitW_told s ([] ++ [q]) (by simpa using h), hfrc, hm, if_pos rfl]
      simp [endF, cntF]
  rw [fitW, goS, hg true, hg false]
end Go.Proofs.Ythlbplmghjaeoae
