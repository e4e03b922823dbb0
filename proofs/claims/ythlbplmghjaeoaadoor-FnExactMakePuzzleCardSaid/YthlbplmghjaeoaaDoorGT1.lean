/- T1, T2, T3, laid as one text. -/
import Derived.Test.YthlbplmghjaeoaaDoorGN1
import Derived.Outline
import Derived.Lib.Join

/- Walks: the rows of a grid as texts. -/
namespace Go.Proofs.YthlbplmghjaeoaaDoor
open Go.RowKit

theorem Owns.cap {w : World} {B e : Nat} {a : Option Addr} {n cap : Nat} {xs : List Value} (h : Owns w B e (.slice a n cap) xs) : n ≤ cap := by
  obtain ⟨h1, h2⟩ := h
  rcases h2 with ⟨hv, _⟩ | ⟨g, cap', cur, hv, hg, hh, hle, _⟩
  · simp at hv; omega
  · simp at hv; omega

/-- Row k of some cells of a width. -/
def rowM (cells : List UInt8) (W k : Nat) : List UInt8 := (cells.drop (k * W)).take W

end Go.Proofs.YthlbplmghjaeoaaDoor

/- Walks: a grid as a text of rows; the model of it. -/
namespace Go.Proofs.YthlbplmghjaeoaaDoor
open Go.RowKit

/-- The rows of some cells of a width. -/
def rowsM (cells : List UInt8) (W : Nat) : Nat → List (List UInt8)
  | 0 => []
  | H + 1 => cells.take W :: rowsM (cells.drop W) W H
@[simp] theorem rowsM_length (W : Nat) : ∀ (H : Nat) (cells : List UInt8), (rowsM cells W H).length = H
  | 0, _ => rfl
  | H + 1, cells => by rw [rowsM, List.length_cons, rowsM_length W H]
theorem rowsM_get (W : Nat) : ∀ (H k : Nat) (cells : List UInt8) (h : k < (rowsM cells W H).length), (rowsM cells W H)[k] = rowM cells W k
  | 0, _, _, h => by simp [rowsM] at h
  | H + 1, 0, cells, _ => by simp [rowsM, rowM]
  | H + 1, k + 1, cells, h => by
    simp only [rowsM, List.getElem_cons_succ]
    rw [rowsM_get W H k (cells.drop W)]
    simp only [rowM, List.drop_drop]
    congr 2
    rw [Nat.succ_mul, Nat.add_comm]
theorem rowsM_part (W : Nat) : ∀ (H : Nat) (cells : List UInt8), ∀ x ∈ rowsM cells W H, x.length ≤ W
  | 0, _, x, h => by simp [rowsM] at h
  | H + 1, cells, x, h => by
    rcases List.mem_cons.1 h with rfl | h
    · exact List.length_take_le _ _
    · exact rowsM_part W H (cells.drop W) x h

/-- The text of some cells in rows of a width. -/
def textM (cells : List UInt8) (W H : Nat) : List UInt8 := Lib.join (rowsM cells W H) [47]
theorem lens_le (n : Nat) : ∀ xs : List (List UInt8), (∀ x ∈ xs, x.length ≤ n) → Lib.lens xs ≤ xs.length * n
  | [], _ => by simp [Lib.lens]
  | x :: r, h => by
    have h1 := lens_le n r (fun y hy => h y (List.mem_cons_of_mem _ hy))
    have h2 := h x (List.mem_cons_self ..)
    have : Lib.lens (x :: r) = x.length + Lib.lens r := by simp [Lib.lens]
    rw [this, List.length_cons, Nat.add_mul]
    omega
theorem textM_le (cells : List UInt8) (W H : Nat) (hW : W ≤ 8) (hH : H ≤ 8) : (textM cells W H).length ≤ 72 := by
  unfold textM
  cases h : rowsM cells W H with
  | nil => simp [Lib.join_nil]
  | cons x r =>
    rw [Lib.join_length, ← h]
    have h1 := lens_le W _ (rowsM_part W H cells)
    have h2 : r.length + 1 = H := by
      have := congrArg List.length h
      simpa using this.symm
    have h3 : H * W ≤ 8 * 8 := Nat.mul_le_mul hH hW
    simp at h1 ⊢
    omega

/-- Cells as rows of a width, sign by sign. -/
def brGo (W : Nat) : Nat → List UInt8 → List UInt8
  | _, [] => []
  | k, c :: r => (if 0 < k ∧ k % W = 0 then [47] else []) ++ c :: brGo W (k + 1) r
theorem brGo_in (W m : Nat) : ∀ (x r : List UInt8) (j : Nat), 0 < j → j + x.length ≤ W → brGo W (m * W + j) (x ++ r) = x ++ brGo W (m * W + j + x.length) r
  | [], r, j, _, _ => by simp
  | c :: x, r, j, h0, hj => by
    rw [List.length_cons] at hj
    have hne : ¬ (0 < m * W + j ∧ (m * W + j) % W = 0) := by
      rintro ⟨_, h2⟩
      rw [Nat.add_comm, Nat.add_mul_mod_self_right, Nat.mod_eq_of_lt (by omega)] at h2
      omega
    have ih := brGo_in W m x r (j + 1) (by omega) (by omega)
    simp only [List.cons_append, brGo, if_neg hne, List.nil_append, List.length_cons]
    rw [show m * W + j + 1 = m * W + (j + 1) by omega, ih, show m * W + (j + 1) + x.length = m * W + j + (x.length + 1) by omega]
theorem brGo_row (W m : Nat) (x r : List UInt8) (hx : x.length = W) (hW : 1 ≤ W) : brGo W (m * W) (x ++ r) = (if 0 < m then [47] else []) ++ x ++ brGo W ((m + 1) * W) r := by
  cases x with
  | nil => simp at hx; omega
  | cons c x =>
    have h := brGo_in W m x r 1 (by omega) (by simp at hx; omega)
    simp only [List.cons_append, brGo]
    rw [h, Nat.mul_mod_left]
    have e : (0 < m * W ∧ (0 : Nat) = 0) ↔ 0 < m := by
      constructor
      · rintro ⟨h1, _⟩
        rcases Nat.eq_zero_or_pos m with rfl | h2
        · simp at h1
        · exact h2
      · intro h1; exact ⟨Nat.mul_pos h1 hW, rfl⟩
    have e2 : m * W + 1 + x.length = (m + 1) * W := by rw [Nat.add_mul]; simp at hx; omega
    rw [e2]
    by_cases hm : 0 < m
    · rw [if_pos (e.2 hm), if_pos hm]; simp
    · rw [if_neg (fun q => hm (e.1 q)), if_neg hm]; simp
theorem brGo_tail (W : Nat) (hW : 1 ≤ W) : ∀ (H m : Nat) (cells : List UInt8), 0 < m → cells.length = W * H → brGo W (m * W) cells = Lib.joinTail [47] (rowsM cells W H)
  | 0, m, cells, _, hn => by
    have : cells = [] := List.eq_nil_of_length_eq_zero (by simpa using hn)
    subst this
    simp [brGo, rowsM, Lib.joinTail]
  | H + 1, m, cells, hm, hn => by
    have hle : W ≤ cells.length := by rw [hn, Nat.mul_add]; omega
    have ih := brGo_tail W hW H (m + 1) (cells.drop W) (by omega) (by rw [List.length_drop, hn, Nat.mul_add]; omega)
    have h := brGo_row W m (cells.take W) (cells.drop W) (by rw [List.length_take]; omega) hW
    rw [List.take_append_drop] at h
    rw [h, ih, if_pos hm]
    simp [rowsM, Lib.joinTail]
theorem brGo_text (W H : Nat) (hW : 1 ≤ W) (cells : List UInt8) (hn : cells.length = W * H) : brGo W 0 cells = textM cells W H := by
  cases H with
  | zero =>
    have : cells = [] := List.eq_nil_of_length_eq_zero (by simpa using hn)
    subst this
    rfl
  | succ H =>
    have hle : W ≤ cells.length := by rw [hn, Nat.mul_add]; omega
    have ih := brGo_tail W hW H 1 (cells.drop W) (by omega) (by rw [List.length_drop, hn, Nat.mul_add]; omega)
    have h := brGo_row W 0 (cells.take W) (cells.drop W) (by rw [List.length_take]; omega) hW
    rw [List.take_append_drop, Nat.zero_mul] at h
    rw [h]
    rw [Nat.zero_add, ih, if_neg (by omega)]
    simp only [textM, rowsM]
    rw [Lib.join_cons]
    rfl

end Go.Proofs.YthlbplmghjaeoaaDoor

/- Walks: cells as rows by the model; a grid's text in any case. -/
namespace Go.Proofs.YthlbplmghjaeoaaDoor
open Go.RowKit

theorem brGo_le (W : Nat) : ∀ (x : List UInt8) (k : Nat), (brGo W k x).length ≤ 2 * x.length
  | [], _ => by simp [brGo]
  | c :: r, k => by
    have := brGo_le W r (k + 1)
    unfold brGo
    split <;> simp <;> omega


theorem Owns.put {w : World} {B e g n cap : Nat} {xs : List Value} (h : Owns w B e (.slice (some ⟨g, 0, none⟩) n cap) xs) (j : Nat) (u : Value) :
    Owns (w.setCell ⟨g, j, none⟩ u) B e (.slice (some ⟨g, 0, none⟩) n cap) (xs.set j u) := by
  obtain ⟨a', cap', hv⟩ := h.shape
  have hn : n = xs.length := by simp at hv; exact hv.2.1
  subst hn
  have := (World.ownsRow.stored h j u).1
  unfold Owns
  rw [List.length_set]
  exact this
theorem Owns.zero {w : World} {B e n cap : Nat} {a : Option Addr} {xs : List Value} (h : Owns w B e (.slice a n cap) xs) (h0 : 0 < xs.length) :
    ∃ g, a = some ⟨g, 0, none⟩ ∧ B ≤ g ∧ g < w.heap.size := by
  obtain ⟨_, h2⟩ := id h
  rcases h2 with ⟨_, hn⟩ | ⟨g, cap', cur, hv, hg, _⟩
  · omega
  · simp at hv
    obtain ⟨rfl, _, _⟩ := hv
    exact ⟨g, rfl, h.lt g rfl⟩
theorem Owns.froz {w : World} {B e g n cap : Nat} {xs : List Value} (h : Owns w B e (.slice (some ⟨g, 0, none⟩) n cap) xs) (j : Nat) : w.frozen? ⟨g, j, none⟩ = false := by
  obtain ⟨a', cap', hv⟩ := h.shape
  simp at hv
  obtain ⟨_, rfl, _⟩ := hv
  exact World.ownsRow.frozenAt (n := xs.length) (cap := cap) h j
theorem byts_set (l : List UInt8) (k : Nat) (c : UInt8) : (byts l).set k (.int .u8 (c.toNat : Int)) = byts (l.set k c) := by
  simp [byts, List.map_set]

/-- A grid as a text: of a board, or of none. -/
theorem gSize (l : List UInt8) : (gW l = 0 ∧ gH l = 0) ∨ ((1 ≤ gW l ∧ gW l ≤ 8) ∧ (1 ≤ gH l ∧ gH l ≤ 8)) := by
  by_cases hg : boGoodM l = true
  · have hB := Brd.of hg
    obtain ⟨g1, g2, _⟩ := hB.grid
    right
    rw [g1, g2]
    exact ⟨⟨hB.w1, hB.w8⟩, hB.h1, hB.h8⟩
  · left; simp [gW, gH, hg]
end Go.Proofs.YthlbplmghjaeoaaDoor
