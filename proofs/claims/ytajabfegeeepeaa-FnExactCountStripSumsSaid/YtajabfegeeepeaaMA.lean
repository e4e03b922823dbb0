/- Strips: how many lists have numbers of a sum, by the program. -/
import Derived.Test.YtajabfegeeepeaaM1
namespace Go.Proofs.Ytajabfegeeepeaa
open Go.RowKit

/-- A list goes on by a sign: two unlike signs beside each other add one. -/
def nextB (e : BS) (_c : Nat) (m : Bool) : BS × Nat × Bool := (m, (Bool.xor e m).toNat, true)
/-- How many ways to choose k of n. -/
def binU : Nat → Nat → Nat
  | 0, k => oneAt0 k
  | n + 1, k => binU n k + shiftF (binU n) 1 k
theorem contB (φ : BS → Nat → Nat) (c : Nat) (e : BS) (m : Bool) (k : Nat) : contS nextB φ c e m k = shiftF (φ m) (Bool.xor e m).toNat k := if_pos rfl
theorem goS_bin : ∀ n c (e : BS) k, goS nextB n c e k = binU n k
  | 0, _, _, _ => rfl
  | n + 1, c, e, k => by
    have ih := fun e' => funext (goS_bin n (c + 1) e')
    show contS nextB _ c e true k + contS nextB _ c e false k = _
    have i1 := ih (true : Bool)
    have i2 := ih (false : Bool)
    rw [contB, contB, i1, i2, binU]
    have hb : ∀ e : Bool, shiftF (binU n) (Bool.xor e true).toNat k + shiftF (binU n) (Bool.xor e false).toNat k = binU n k + shiftF (binU n) 1 k := by
      intro e
      cases e with
      | false => show shiftF (binU n) 1 k + shiftF (binU n) 0 k = _; rw [shiftF_nil]; omega
      | true => show shiftF (binU n) 0 k + shiftF (binU n) 1 k = _; rw [shiftF_nil]
    exact hb e
theorem binU_zero : ∀ n k, n < k → binU n k = 0
  | 0, k, h => by rw [binU, oneAt0, if_neg (by omega)]
  | n + 1, k, h => by rw [binU, binU_zero n k (by omega), shiftF, if_pos (by omega), binU_zero n (k - 1) (by omega)]
theorem binU_le : ∀ n k, binU n k ≤ 2 ^ n
  | 0, k => by rw [binU, oneAt0]; split <;> decide
  | n + 1, k => by
    have h1 := binU_le n k
    have h2 : shiftF (binU n) 1 k ≤ 2 ^ n := by
      unfold shiftF
      split
      · exact binU_le n _
      · exact Nat.zero_le _
    rw [binU, Nat.pow_succ]; omega
theorem binU_small {n : Nat} (h : n ≤ 40) (k : Nat) : binU n k ≤ 1099511627776 := Nat.le_trans (binU_le n k) (Nat.le_trans (Nat.pow_le_pow_right (by decide) h) (by decide))

/-- Whether there are so many cells, and such a sum. -/
def cssB (c d : Int) : Bool := inB c 1 40 && inB d 0 100
def cssV (c d : Int) : Nat := if cssB c d = true then 2 * binU (c.toNat - 1) d.toNat else 0
theorem css_no {c d : Int} (h : cssB c d = false) : cssV c d = 0 := by rw [cssV, h]; rfl
theorem css_yes {n k : Nat} (h1 : 1 ≤ n) (h2 : n ≤ 40) (h3 : k ≤ 100) : cssB (n : Int) (k : Int) = true ∧ cssV (n : Int) (k : Int) = 2 * binU (n - 1) k := by
  have e : cssB (n : Int) (k : Int) = true := by simp [cssB, inB]; omega
  exact ⟨e, by rw [cssV, if_pos e]; rfl⟩
theorem css_out {c d : Int} (h : ¬ ((1 ≤ c ∧ c ≤ 40) ∧ (0 ≤ d ∧ d ≤ 100))) : cssB c d = false := by
  rw [Bool.eq_false_iff]
  intro q
  simp [cssB, inB] at q
  omega

theorem distB (a b : Bool) (w : World) :
    Calls Try.prog 58 #[.int .i64 (a.toNat : Int), .int .i64 (b.toNat : Int)] w fun e w' => e = .returned (.int .i64 ((Bool.xor a b).toNat : Int)) ∧ w = w' := by
  cases a <;> cases b
  all_goals
    go_enter Try.func58, Try.ntmps58
    go_wp2_with fail
    go_ret
    exact ⟨rfl, rfl⟩
theorem entersB1 (args : Array Value) (w' : World) : (callFunc 57 args).run Try.prog w' = .ok (.enter 57 args) w' := by kernel_rfl
set_option maxRecDepth 100000 in
theorem stepB_any (e : BS) (c : Int) (m : Bool) (w : World) :
    Calls Try.prog 57 #[encB e, .int .i64 c, .int .u8 ((sgM m).toNat : Int)] w fun r w' => r = .returned (.tuple #[encB (nextB e 0 m).1, .int .i64 ((nextB e 0 m).2.1 : Int), .bool true]) ∧ Below w.heap.size w w' := by
  have h1 := Lib.hid fun w => minesIn_any e w
  have h2 := Lib.hid fun w => minesIn_any m w
  have h3 := Lib.hid fun w => distB e m w
  rw [show encB e = .int .u8 ((sgM e).toNat : Int) from rfl, show encB (nextB e 0 m).1 = .int .u8 ((sgM m).toNat : Int) from rfl, show (nextB e 0 m).2.1 = (Bool.xor e m).toNat from rfl]
  generalize ((sgM e).toNat : Int) = se at *
  generalize ((sgM m).toNat : Int) = sm at *
  generalize ((e.toNat : Nat) : Int) = ne at *
  generalize ((m.toNat : Nat) : Int) = nm at *
  generalize (((Bool.xor e m).toNat : Nat) : Int) = nx at *
  go_enter Try.func57, Try.ntmps57
  go_wp2_with fail
  refine (h1.out _).mono ?_
  rintro e w1 ⟨rfl, rfl⟩
  go_wp2_with fail
  refine (h2.out _).mono ?_
  rintro e w1 ⟨rfl, rfl⟩
  go_wp2_with fail
  refine (h3.out _).mono ?_
  rintro e w1 ⟨rfl, rfl⟩
  go_wp2_with fail
  refine bodyPost_ret (v := .tuple #[.int .u8 sm, .int .i64 nx, .bool true]) ?_ rfl ⟨rfl, Below.refl _ _⟩
  simp [results, Try.results57, asAddr]
set_option maxRecDepth 100000 in
set_option maxHeartbeats 1600000 in
theorem iCountStripSums_any (c d : Int) (w : World) :
    Calls Try.prog 27 #[.int .i64 c, .int .i64 d] w fun e w' => e = .returned (.tuple #[.int .i64 (cssV c d : Nat), .bool (cssB c d)]) ∧ Below w.heap.size w w' := by
  by_cases hin : (1 ≤ c ∧ c ≤ 40) ∧ (0 ≤ d ∧ d ≤ 100)
  · obtain ⟨n, rfl⟩ : ∃ n : Nat, c = (n : Int) := ⟨c.toNat, by omega⟩
    obtain ⟨k, rfl⟩ : ∃ k : Nat, d = (k : Int) := ⟨d.toNat, by omega⟩
    obtain ⟨e1, e2⟩ := css_yes (n := n) (k := k) (by omega) (by omega) (by omega)
    rw [e1, e2]
    have z1 : ¬ (n : Int) < 1 := by omega
    have z2 : ¬ (n : Int) > 40 := by omega
    have z3 : ¬ (k : Int) < 0 := by omega
    have z4 : ¬ (k : Int) > 100 := by omega
    have z2' : ¬ (40 : Int) < (n : Int) := by omega
    have z4' : ¬ (100 : Int) < (k : Int) := by omega
    by_cases hk : n ≤ k
    · have hz : Hid (2 * binU (n - 1) k = 0) := by rw [Hid, binU_zero _ _ (by omega)]
      have z5 : (k : Int) ≥ (n : Int) := by omega
      have z6 : (n : Int) ≤ (k : Int) := by omega
      rw [hz.out]
      clear hin e1 e2 hk
      go_enter Try.func27, Try.ntmps27
      go_wp2_with fail
      go_ret2
      exact ⟨rfl, Below.refl _ _⟩
    · have z5 : ¬ (k : Int) ≥ (n : Int) := by omega
      have z6 : ¬ (n : Int) ≤ (k : Int) := by omega
      obtain ⟨m, rfl⟩ : ∃ m, n = m + 1 := ⟨n - 1, by omega⟩
      have z7 : ((m + 1 : Nat) : Int) - 1 = (m : Int) := by omega
      have hsw := fun w => sumWaysB_any nextB 57 #[] m (false : Bool) w (by omega) (fun args w' => entersB1 args w') (fun e c m => by
        have hx : ∀ e m : Bool, (Bool.xor e m).toNat ≤ 40 := by decide
        exact hx e m) (fun w' e c m _ _ => stepB_any e (c : Int) m w')
      have hgo : wvA (goS nextB m 0 (false : Bool)) = wvA (binU m) := wvA_congr fun k _ => goS_bin m 0 _ k
      rw [hgo] at hsw
      rw [show encB (false : Bool) = .int .u8 46 from rfl] at hsw
      have HSW := Lib.hid hsw
      have hz := fun w => wvZero w
      have hle := binU_small (n := m) (by omega) k
      have hkl : k < 41 := by omega
      have hval : Hid ((m + 1 - 1) = m) := by rw [Hid]; omega
      rw [hval.out]
      obtain ⟨u, hu⟩ : ∃ u, u = binU m k := ⟨_, rfl⟩
      rw [← hu] at hle ⊢
      have HU := Lib.hid hu
      clear hsw hgo hin e1 e2 hk hu
      go_enter Try.func27, Try.ntmps27
      go_wp2_with fail
      refine (HSW.out _).mono ?_
      rintro e w1 ⟨rfl, hb1⟩
      have hA := heap_alloc_new w1 (.cells (wvA fun _ => 0) 54)
      go_upto_region 6 with (first
        | (refine wpList_store_row rfl _ _ _ rfl (w1.heap.size) (wvA (binU m)) rfl rfl 54 _ hA (wvInfoA _) (by simp only [wvA_size]) (wvA_one _) ?_))
      have hB := setRow_heap (w1.alloc (.cells (wvA fun _ => 0) 54)) w1.heap.size _ (wvA (binU m)) _ _ hA
      have hb2 : Below w1.heap.size w1 ((w1.alloc (.cells (wvA fun _ => 0) 54)).setRow w1.heap.size (wvA (binU m))) := below_setRow ((Below.refl _ _).alloc (Nat.le_refl _) _) (Nat.le_refl _) _
      clear hA
      generalize (w1.alloc (.cells (wvA fun _ => 0) 54)).setRow w1.heap.size (wvA (binU m)) = w2 at *
      have hcl := cell_of_block hB k
      rw [wvA_get _ hkl, ← HU.out] at hcl
      clear hB
      go_wp2_with fail
      go_ret2
      exact ⟨by go_num, hb1.trans (hb2.mono hb1.size)⟩
  · have e := css_out hin
    rw [css_no e, e]
    by_cases y1 : c < 1
    · clear hin e
      go_enter Try.func27, Try.ntmps27
      go_wp2_with fail
      go_ret2
      exact ⟨rfl, Below.refl _ _⟩
    · by_cases y2 : 40 < c
      · have y2' : c > 40 := y2
        clear hin e
        go_enter Try.func27, Try.ntmps27
        go_wp2_with fail
        go_ret2
        exact ⟨rfl, Below.refl _ _⟩
      · have y2' : ¬ c > 40 := y2
        by_cases y3 : d < 0
        · clear hin e
          go_enter Try.func27, Try.ntmps27
          go_wp2_with fail
          go_ret2
          exact ⟨rfl, Below.refl _ _⟩
        · have y4 : d > 100 := by omega
          have y4' : 100 < d := by omega
          clear hin e
          go_enter Try.func27, Try.ntmps27
          go_wp2_with fail
          go_ret2
          exact ⟨rfl, Below.refl _ _⟩
end Go.Proofs.Ytajabfegeeepeaa
