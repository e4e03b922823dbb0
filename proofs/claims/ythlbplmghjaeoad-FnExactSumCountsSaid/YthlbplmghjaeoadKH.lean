/- Sums of all small boards: none is greater than that of mines in each second row or column. -/
import Derived.Test.YthlbplmghjaeoadJG
import Derived.Test.YthlbplmghjaeoadGJ2
import Derived.Outline
namespace Go.Proofs.Ythlbplmghjaeoad

/-- The sum of the numbers of the board with a number, told by its bits. -/
def bitS (W n m : Nat) : Nat := (List.range n).foldl (fun s i => bif m.testBit (n - 1 - i) then (nearM W n i).foldl (fun s j => bif m.testBit (n - 1 - j) then s else s + 1) s else s) 0
theorem countAt_fold (cells : List UInt8) : ∀ (l : List Nat) (s : Nat), l.foldl (fun s j => if cells.getD j 0 = 42 then s + 1 else s) s = s + countAt cells l
  | [], s => rfl
  | o :: r, s => by
    rw [List.foldl_cons, countAt_fold cells r, countAt]
    split <;> omega
theorem sumGo_fold (cells : List UInt8) (W : Nat) : ∀ (m k s : Nat), (List.range' k m).foldl (fun s i => if cells.getD i 0 = 42 then s else s + numM cells W i) s = s + sumGo cells W k m
  | 0, k, s => rfl
  | m + 1, k, s => by
    rw [List.range'_succ, List.foldl_cons, sumGo_fold cells W m (k + 1), sumGo]
    split <;> omega
theorem ctB_getD (n m i : Nat) (hi : i < n) : ((ctB n m).getD i 0 = 42) ↔ m.testBit (n - 1 - i) = false := by
  have : (ctB n m).getD i 0 = if m.testBit (n - 1 - i) = true then 46 else 42 := by
    unfold ctB; simp [List.getD, hi]
  rw [this]
  cases m.testBit (n - 1 - i) <;> decide
theorem foldl_congr {α β : Type} {f g : β → α → β} : ∀ (l : List α) (s : β), (∀ s, ∀ a ∈ l, f s a = g s a) → l.foldl f s = l.foldl g s
  | [], _, _ => rfl
  | a :: r, s, h => by rw [List.foldl_cons, List.foldl_cons, h s a (List.mem_cons_self ..), foldl_congr r _ fun s b hb => h s b (List.mem_cons_of_mem _ hb)]
theorem bitS_sum (W n m : Nat) : bitS W n m = sumGo (ctB n m) W 0 n := by
  have h := sumGo_fold (ctB n m) W n 0 0
  rw [Nat.zero_add, ← List.range_eq_range'] at h
  rw [← h]
  unfold bitS
  refine foldl_congr _ _ fun s i hi => ?_
  have hi := List.mem_range.1 hi
  cases hb : m.testBit (n - 1 - i) with
  | false => rw [if_pos ((ctB_getD n m i hi).2 hb)]; rfl
  | true =>
    rw [if_neg (fun q => by rw [(ctB_getD n m i hi).1 q] at hb; cases hb)]
    unfold numM
    rw [ctB_length, ← countAt_fold (ctB n m)]
    refine foldl_congr _ _ fun s j hj => ?_
    have hj := nearM_lt W n i j hj
    cases hb2 : m.testBit (n - 1 - j) with
    | false => rw [if_pos ((ctB_getD n m j hj).2 hb2)]; rfl
    | true => rw [if_neg (fun q => by rw [(ctB_getD n m j hj).1 q] at hb2; cases hb2)]; rfl
/-- The neighbours of all cells, as the values of their bits. -/
def adjP (W n : Nat) : List (Nat × Nat) := (List.range n).flatMap fun i => (nearM W n i).map fun j => (2 ^ (n - 1 - i), 2 ^ (n - 1 - j))
def ordS (m : Nat) : List (Nat × Nat) → Nat → Nat
  | [], s => s
  | (a, b) :: r, s => ordS m r (Nat.add s (Nat.mul (Nat.mod (Nat.div m a) 2) (Nat.sub 1 (Nat.mod (Nat.div m b) 2))))
theorem ordS_fold (m : Nat) : ∀ (P : List (Nat × Nat)) (s : Nat), ordS m P s = P.foldl (fun s p => s + (m / p.1 % 2) * (1 - m / p.2 % 2)) s
  | [], _ => rfl
  | (a, b) :: r, s => by rw [ordS, ordS_fold m r, List.foldl_cons]; rfl
theorem foldl_id {α β : Type} {f : β → α → β} : ∀ (l : List α) (s : β), (∀ s, ∀ a ∈ l, f s a = s) → l.foldl f s = s
  | [], _, _ => rfl
  | a :: r, s, h => by rw [List.foldl_cons, h s a (List.mem_cons_self ..)]; exact foldl_id r s fun s b hb => h s b (List.mem_cons_of_mem _ hb)
theorem bit_val (m k : Nat) : m / 2 ^ k % 2 = if m.testBit k = true then 1 else 0 := by
  rw [Nat.testBit_eq_decide_div_mod_eq]
  have : m / 2 ^ k % 2 = 0 ∨ m / 2 ^ k % 2 = 1 := by omega
  rcases this with h | h <;> rw [h] <;> rfl
theorem ordS_bit (W n m : Nat) : ordS m (adjP W n) 0 = bitS W n m := by
  rw [ordS_fold, adjP, List.foldl_flatMap, bitS]
  refine foldl_congr _ _ fun s i _ => ?_
  rw [List.foldl_map]
  simp only [bit_val]
  cases m.testBit (n - 1 - i) with
  | false => exact foldl_id _ _ fun s a _ => by simp
  | true =>
    refine foldl_congr _ _ fun s j _ => ?_
    cases m.testBit (n - 1 - j) <;> simp
def under (P : List (Nat × Nat)) (G : Nat) : Nat → Bool
  | 0 => true
  | m + 1 => Nat.ble (ordS m P 0) G && under P G m
theorem under_le {P : List (Nat × Nat)} {G : Nat} : ∀ {k : Nat}, under P G k = true → ∀ m, m < k → ordS m P 0 ≤ G
  | k + 1, h, m, hm => by
    rw [under, Bool.and_eq_true] at h
    rcases Nat.lt_or_ge m k with g | g
    · exact under_le h.2 m g
    · obtain rfl : m = k := by omega
      exact Nat.le_of_ble_eq_true h.1
/-- The greatest sum, and a board that has it. -/
def topG (W H : Nat) : Nat := (gsM W H).toNat
def topM (W H : Nat) : Nat := (List.range (W * H)).foldl (fun s i => 2 * s + (if strN H W 0 < strN W H 0 then (if (i / W) % 2 = 0 then 0 else 1) else (if (i % W) % 2 = 0 then 0 else 1))) 0
def topB (W H : Nat) : Bool := Nat.ble (W * H) 12 == false || (decide (topM W H < 2 ^ (W * H)) && (ordS (topM W H) (adjP W (W * H)) 0 == topG W H) && decide (((topG W H : Nat) : Int) = gsM W H))
set_option maxRecDepth 100000 in
theorem topB_all : ∀ W : Nat, W < 9 → 1 ≤ W → ∀ H : Nat, H < 9 → 1 ≤ H → topB W H = true := by decide +kernel
theorem top_hit (W H : Nat) (hW : 1 ≤ W ∧ W ≤ 8) (hH : 1 ≤ H ∧ H ≤ 8) (h12 : W * H ≤ 12) : topM W H < 2 ^ (W * H) ∧ ordS (topM W H) (adjP W (W * H)) 0 = topG W H ∧ ((topG W H : Nat) : Int) = gsM W H := by
  have h := topB_all W (by omega) hW.1 H (by omega) hH.1
  unfold topB at h
  rw [Nat.ble_eq_true_of_le h12] at h
  simpa [and_assoc] using h
end Go.Proofs.Ythlbplmghjaeoad
