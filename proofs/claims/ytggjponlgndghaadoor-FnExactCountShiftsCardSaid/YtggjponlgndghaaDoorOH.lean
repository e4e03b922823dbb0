/- Joined boards: boards shifted step by step are those of the model. -/
import Derived.Test.YtggjponlgndghaaDoorOG
namespace Go.Proofs.YtggjponlgndghaaDoor
open Go.RowKit

def sD (W n i : Nat) : Nat := if i < W then n - W + i else i - W
def sR (W i : Nat) : Nat := (i / W) * W + (if i % W = 0 then W - 1 else i % W - 1)

theorem dnM_get {W : Nat} {cells : List UInt8} (hW : W ≤ cells.length) {i : Nat} (hi : i < cells.length) : (dnM W cells).getD i 0 = cells.getD (sD W cells.length i) 0 := by
  simp only [List.getD_eq_getElem?_getD, dnM, sD]
  split
  · rename_i h
    rw [List.getElem?_append_left (by rw [List.length_drop]; omega), List.getElem?_drop]
  · rename_i h
    rw [List.getElem?_append_right (by rw [List.length_drop]; omega), List.length_drop, List.getElem?_take]
    rw [if_pos (by omega), show i - (cells.length - (cells.length - W)) = i - W by omega]
theorem rtRow_get {W : Nat} {row : List UInt8} (hW : 1 ≤ W) (hr : row.length = W) {x : Nat} (hx : x < W) : (rtRow W row)[x]? = row[if x = 0 then W - 1 else x - 1]? := by
  unfold rtRow
  split
  · rename_i h
    subst h
    rw [List.getElem?_append_left (by rw [List.length_drop]; omega), List.getElem?_drop, Nat.add_zero]
  · rename_i h
    rw [List.getElem?_append_right (by rw [List.length_drop]; omega), List.length_drop, List.getElem?_take]
    rw [if_pos (by omega), show x - (row.length - (W - 1)) = x - 1 by omega]
theorem rtGo_get {W H : Nat} {cells : List UInt8} (hW : 1 ≤ W) (hn : cells.length = W * H) : ∀ k, k ≤ H → ∀ i, i < k * W → (rtGo W cells k)[i]? = cells[sR W i]?
  | 0, _, i, hi => by simp at hi
  | k + 1, hk, i, hi => by
    have hl := rtGo_length W H cells hn hW k (by omega)
    rw [rtGo_succ]
    by_cases h : i < k * W
    · rw [List.getElem?_append_left (by omega)]
      exact rtGo_get hW hn k (by omega) i h
    · rw [Nat.succ_mul] at hi
      rw [List.getElem?_append_right (by omega), hl]
      obtain ⟨x, rfl⟩ : ∃ x, i = k * W + x := ⟨i - k * W, by omega⟩
      have hx : x < W := by omega
      have h1 : (k * W + x) / W = k := by rw [Nat.mul_comm, Nat.mul_add_div hW, Nat.div_eq_of_lt hx, Nat.add_zero]
      have h2 : (k * W + x) % W = x := by rw [Nat.mul_comm, Nat.mul_add_mod, Nat.mod_eq_of_lt hx]
      rw [show k * W + x - k * W = x by omega, rtRow_get hW (rowM_len W H cells hn k hk) hx, sR, h1, h2, rowM, List.getElem?_take, List.getElem?_drop]
      split
      · rw [if_pos (by omega)]
      · rw [if_pos (by omega)]
theorem rtM_get {W H : Nat} {cells : List UInt8} (hW : 1 ≤ W) (hn : cells.length = W * H) {i : Nat} (hi : i < cells.length) : (rtM W H cells).getD i 0 = cells.getD (sR W i) 0 := by
  simp only [List.getD_eq_getElem?_getD, rtM]
  rw [rtGo_get hW hn H (Nat.le_refl _) i (by rw [Nat.mul_comm, ← hn]; exact hi)]

theorem itM_comm {α : Type} (f : α → α) : ∀ k x, itM f k (f x) = f (itM f k x)
  | 0, _ => rfl
  | k + 1, x => by rw [itM, itM_comm f k x]; rfl
theorem itM_get {n : Nat} {f : List UInt8 → List UInt8} {s : Nat → Nat} (hf : ∀ c : List UInt8, c.length = n → (f c).length = n) (hs : ∀ i, i < n → s i < n)
    (hg : ∀ c : List UInt8, c.length = n → ∀ i, i < n → (f c).getD i 0 = c.getD (s i) 0) {c : List UInt8} (hc : c.length = n) : ∀ k i, i < n → (itM f k c).getD i 0 = c.getD (itM s k i) 0
  | 0, _, _ => rfl
  | k + 1, i, hi => by
    rw [itM, hg _ (itM_len hf hc k) i hi, itM_get hf hs hg hc k (s i) (hs i hi), itM_comm]
    rfl
theorem itM_lt {n : Nat} {s : Nat → Nat} (hs : ∀ i, i < n → s i < n) : ∀ k i, i < n → itM s k i < n
  | 0, _, hi => hi
  | k + 1, i, hi => hs _ (itM_lt hs k i hi)

set_option maxRecDepth 100000 in
theorem sR_it : ∀ w, w < 6 → ∀ r, r < w + 3 → ∀ i, i < 64 → itM (sR (w + 3)) r i = (i / (w + 3)) * (w + 3) + (i % (w + 3) + (w + 3) - r) % (w + 3) := by decide +kernel
set_option maxRecDepth 100000 in
theorem sD_it : ∀ w, w < 6 → ∀ h, h < 6 → ∀ d, d < h + 3 → ∀ i, i < (w + 3) * (h + 3) → itM (sD (w + 3) ((w + 3) * (h + 3))) d i = ((i / (w + 3) + (h + 3) - d) % (h + 3)) * (w + 3) + i % (w + 3) := by decide +kernel

theorem shM_eq {W H r d : Nat} {cells : List UInt8} (hW : 3 ≤ W ∧ W ≤ 8) (hH : 3 ≤ H ∧ H ≤ 8) (hn : cells.length = W * H) (hr : r < W) (hd : d < H) : shsM W H r d cells = shM W H r d cells := by
  have hWn : W ≤ W * H := Nat.le_mul_of_pos_right W (by omega)
  have h64 : W * H ≤ 64 := Nat.mul_le_mul hW.2 hH.2
  have hsD : ∀ i, i < W * H → sD W (W * H) i < W * H := fun i hi => by unfold sD; split <;> omega
  have hsR : ∀ i, i < W * H → sR W i < W * H := fun i hi => by
    have h1 : i / W < H := Nat.div_lt_of_lt_mul hi
    have h3 : (i / W + 1) * W ≤ H * W := Nat.mul_le_mul_right W h1
    rw [Nat.succ_mul, Nat.mul_comm H W] at h3
    have h4 : i % W < W := Nat.mod_lt _ (by omega)
    unfold sR
    split <;> omega
  apply List.ext_getElem
  · rw [shsM_length, shM_length (by omega) r d hn, hn]
  · intro i h1 h2
    have hi : i < W * H := by rw [shsM_length, hn] at h1; exact h1
    have e1 : (shM W H r d cells).getD i 0 = cells.getD (shI W H r d i) 0 := by
      have g1 := itM_get (n := W * H) (s := sD W (W * H)) (f := dnM W) dn_len hsD (fun c hc i hi => by rw [dnM_get (by omega) (by omega), hc]) (c := itM (rtM W H) r cells) (itM_len (rt_len (by omega)) hn r) d i hi
      have g2 := itM_get (n := W * H) (s := sR W) (f := rtM W H) (rt_len (by omega)) hsR (fun c hc i hi => rtM_get (by omega) hc (by omega)) hn r (itM (sD W (W * H)) d i) (itM_lt hsD d i hi)
      rw [shM, g1, g2]
      obtain ⟨w, rfl⟩ : ∃ w, W = w + 3 := ⟨W - 3, by omega⟩
      obtain ⟨h, rfl⟩ : ∃ h, H = h + 3 := ⟨H - 3, by omega⟩
      rw [sD_it w (by omega) h (by omega) d hd i hi]
      have hp : (i / (w + 3) + (h + 3) - d) % (h + 3) < h + 3 := Nat.mod_lt _ (by omega)
      have hx : i % (w + 3) < w + 3 := Nat.mod_lt _ (by omega)
      unfold shI
      generalize (i / (w + 3) + (h + 3) - d) % (h + 3) = p at *
      generalize i % (w + 3) = x at *
      have hj : p * (w + 3) + x < 64 := by
        have h3 : (p + 1) * (w + 3) ≤ (h + 3) * (w + 3) := Nat.mul_le_mul_right _ hp
        rw [Nat.succ_mul, Nat.mul_comm (h + 3)] at h3
        omega
      rw [sR_it w (by omega) r hr _ hj]
      have q1 : (p * (w + 3) + x) / (w + 3) = p := by rw [Nat.mul_comm, Nat.mul_add_div (by omega), Nat.div_eq_of_lt hx, Nat.add_zero]
      have q2 : (p * (w + 3) + x) % (w + 3) = x := by rw [Nat.mul_comm, Nat.mul_add_mod, Nat.mod_eq_of_lt hx]
      rw [q1, q2]
    have e2 : (shM W H r d cells).getD i 0 = (shM W H r d cells)[i] := by simp [List.getD, h2]
    rw [← e2, e1]
    simp [shsM]
end Go.Proofs.YtggjponlgndghaaDoor
