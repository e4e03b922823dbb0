/- Walks: a grid as a text of rows; the model of it. -/
import Derived.Test.YthlbplmghjaeoaeT1
import Derived.Lib.Join
namespace Go.Proofs.Ythlbplmghjaeoae
open Go.RowKit

/-- The rows of some cells of a width. -/
def rowsM (cells : List UInt8) (W : Nat) : Nat → List (List UInt8)
  | 0 => []
  | H + 1 => cells.take W :: rowsM (cells.drop W) W H
@[simp] theorem rowsM_length (W : Nat) : ∀ (H : Nat) (cells : List UInt8), (rowsM cells W H).length = H
  | 0, _ => rfl
  | H + 1, cells => by rw [rowsM, List.length_cons, rowsM_length W H]
theorem rowsM_get (W : Nat) : ∀ (H k : Nat) (cells : List UInt8) (h : k < (rowsM cells W H).length), (rowsM cells W H)[k] = rowM cells W k
  | 0, _, _, h => by simp [rowsM] at h
  | H + 1, 0, cells, _ => by simp [rowsM, rowM]
  | H + 1, k + 1, cells, h => by
    simp only [rowsM, List.getElem_cons_succ]
    rw [rowsM_get W H k (cells.drop W)]
    simp only [rowM, List.drop_drop]
    congr 2
    rw [Nat.succ_mul, Nat.add_comm]
theorem rowsM_part (W : Nat) : ∀ (H : Nat) (cells : List UInt8), ∀ x ∈ rowsM cells W H, x.length ≤ W
  | 0, _, x, h => by simp [rowsM] at h
  | H + 1, cells, x, h => by
    rcases List.mem_cons.1 h with rfl | h
    · exact List.length_take_le _ _
    · exact rowsM_part W H (cells.drop W) x h

/-- The text of some cells in rows of a width. -/
def textM (cells : List UInt8) (W H : Nat) : List UInt8 := Lib.join (rowsM cells W H) [47]
theorem lens_le (n : Nat) : ∀ xs : List (List UInt8), (∀ x ∈ xs, x.length ≤ n) → Lib.lens xs ≤ xs.length * n
  | [], _ => by simp [Lib.lens]
  | x :: r, h => by
    have h1 := lens_le n r (fun y hy => h y (List.mem_cons_of_mem _ hy))
    have h2 := h x (List.mem_cons_self ..)
    have : Lib.lens (x :: r) = x.length + Lib.lens r := by simp [Lib.lens]
    rw [this, List.length_cons, Nat.add_mul]
    omega
theorem textM_le (cells : List UInt8) (W H : Nat) (hW : W ≤ 8) (hH : H ≤ 8) : (textM cells W H).length ≤ 72 := by
  unfold textM
  cases h : rowsM cells W H with
  | nil => simp [Lib.join_nil]
  | cons x r =>
    rw [Lib.join_length, ← h]
    have h1 := lens_le W _ (rowsM_part W H cells)
    have h2 : r.length + 1 = H := by
      have := congrArg List.length h
      simpa using this.symm
    have h3 : H * W ≤ 8 * 8 := Nat.mul_le_mul hH hW
    simp at h1 ⊢
    omega

/-- Cells as rows of a width, sign by sign. -/
def brGo (W : Nat) : Nat → List UInt8 → List UInt8
  | _, [] => []
  | k, c :: r => (if 0 < k ∧ k % W = 0 then [47] else []) ++ c :: brGo W (k + 1) r
theorem brGo_in (W m : Nat) : ∀ (x r : List UInt8) (j : Nat), 0 < j → j + x.length ≤ W → brGo W (m * W + j) (x ++ r) = x ++ brGo W (m * W + j + x.length) r
  | [], r, j, _, _ => by simp
  | c :: x, r, j, h0, hj => by
    rw [List.length_cons] at hj
    have hne : ¬ (0 < m * W + j ∧ (m * W + j) % W = 0) := by
      rintro ⟨_, h2⟩
      rw [Nat.add_comm, Nat.add_mul_mod_self_right, Nat.mod_eq_of_lt (by omega)] at h2
      omega
    have ih := brGo_in W m x r (j + 1) (by omega) (by omega)
    simp only [List.cons_append, brGo, if_neg hne, List.nil_append, List.length_cons]
    rw [show m * W + j + 1 = m * W + (j + 1) by omega, ih, show m * W + (j + 1) + x.length = m * W + j + (x.length + 1) by omega]
theorem brGo_row (W m : Nat) (x r : List UInt8) (hx : x.length = W) (hW : 1 ≤ W) : brGo W (m * W) (x ++ r) = (if 0 < m then [47] else []) ++ x ++ brGo W ((m + 1) * W) r := by
  cases x with
  | nil => simp at hx; omega
  | cons c x =>
    have h := brGo_in W m x r 1 (by omega) (by simp at hx; omega)
    simp only [List.cons_append, brGo]
    rw [h, Nat.mul_mod_left]
    have e : (0 < m * W ∧ (0 : Nat) = 0) ↔ 0 < m := by
      constructor
      · rintro ⟨h1, _⟩
        rcases Nat.eq_zero_or_pos m with rfl | h2
        · simp at h1
        · exact h2
      · intro h1; exact ⟨Nat.mul_pos h1 hW, rfl⟩
    have e2 : m * W + 1 + x.length = (m + 1) * W := by rw [Nat.add_mul]; simp at hx; omega
    rw [e2]
    by_cases hm : 0 < m
    · rw [if_pos (e.2 hm), if_pos hm]; simp
    · rw [if_neg (fun q => hm (e.1 q)), if_neg hm]; simp
theorem brGo_tail (W : Nat) (hW : 1 ≤ W) : ∀ (H m : Nat) (cells : List UInt8), 0 < m → cells.length = W * H → brGo W (m * W) cells = Lib.joinTail [47] (rowsM cells W H)
  | 0, m, cells, _, hn => by
    have : cells = [] := List.eq_nil_of_length_eq_zero (by simpa using hn)
    subst this
    simp [brGo, rowsM, Lib.joinTail]
  | H + 1, m, cells, hm, hn => by
    have hle : W ≤ cells.length := by rw [hn, Nat.mul_add]; omega
    have ih := brGo_tail W hW H (m + 1) (cells.drop W) (by omega) (by rw [List.length_drop, hn, Nat.mul_add]; omega)
    have h := brGo_row W m (cells.take W) (cells.drop W) (by rw [List.length_take]; omega) hW
    rw [List.take_append_drop] at h
    rw [h, ih, if_pos hm]
    simp [rowsM, Lib.joinTail]
theorem brGo_text (W H : Nat) (hW : 1 ≤ W) (cells : List UInt8) (hn : cells.length = W * H) : brGo W 0 cells = textM cells W H := by
  cases H with
  | zero =>
    have : cells = [] := List.eq_nil_of_length_eq_zero (by simpa using hn)
    subst this
    rfl
  | succ H =>
    have hle : W ≤ cells.length := by rw [hn, Nat.mul_add]; omega
    have ih := brGo_tail W hW H 1 (cells.drop W) (by omega) (by rw [List.length_drop, hn, Nat.mul_add]; omega)
    have h := brGo_row W 0 (cells.take W) (cells.drop W) (by rw [List.length_take]; omega) hW
    rw [List.take_append_drop, Nat.zero_mul] at h
    rw [h]
    rw [Nat.zero_add, ih, if_neg (by omega)]
    simp only [textM, rowsM]
    rw [Lib.join_cons]
    rfl

set_option maxRecDepth 100000 in
set_option maxHeartbeats 1600000 in
theorem text_some {J : Bool} (W H : Nat) (a : Option Addr) (cells : List UInt8) (cap : Nat) (w : World) (hat : At w a (byts cells)) (hcap : cells.length ≤ cap) (hn : cells.length = W * H) (hW : 1 ≤ W ∧ W ≤ 8) (hH : 1 ≤ H ∧ H ≤ 8) :
    Calls Try.prog 62 #[.agg #[.int .i64 W, .int .i64 H, .slice a cells.length cap, .bool J]] w fun e w' => e = .returned (.string ⟨(textM cells W H).toArray⟩) ∧ Below w.heap.size w w' := by
  have HT := Lib.hid (show textM cells W H = Lib.join (rowsM cells W H) [47] from rfl)
  have htl := textM_le cells W H hW.2 hH.2
  have HN := Lib.hid hn
  have HW := Lib.hid hW
  obtain ⟨hH1, hH8⟩ := hH
  clear hn hW
  go_enter Try.func62, Try.ntmps62
  go_wp2_with fail
  have hw1 : Below (w.heap.size + 1) (w.alloc (.cells #[.int .i64 W, .int .i64 H, .slice a cells.length cap, .bool J] 66)) (w.alloc (.cells #[.int .i64 W, .int .i64 H, .slice a cells.length cap, .bool J] 66)) := Below.refl _ _
  have hG1 : (w.alloc (.cells #[.int .i64 W, .int .i64 H, .slice a cells.length cap, .bool J] 66)).heap[w.heap.size]? = some (.cells #[.int .i64 W, .int .i64 H, .slice a cells.length cap, .bool J] 66 (0, 0)) := heap_alloc_new w _
  have hw0 : Below w.heap.size w (w.alloc (.cells #[.int .i64 W, .int .i64 H, .slice a cells.length cap, .bool J] 66)) := (Below.refl _ _).alloc (Nat.le_refl _) _
  have hs1 : (w.alloc (.cells #[.int .i64 W, .int .i64 H, .slice a cells.length cap, .bool J] 66)).heap.size = w.heap.size + 1 := by simp
  generalize w.alloc (.cells #[.int .i64 W, .int .i64 H, .slice a cells.length cap, .bool J] 66) = w1 at *
  have hat1 : At w1 a (byts cells) := hat.later rfl hw0
  have HG1 := Lib.hid hG1
  clear hG1
  go_loopw [3, 7] (fun v i wr => ∃ k : Nat, k ≤ H ∧ i = .int .i64 k ∧ Owns wr (w.heap.size + 1) 9 v (txts ((rowsM cells W H).take k)) ∧ Below (w.heap.size + 1) w1 wr ∧ At wr a (byts cells)) (fun _ i _ => H - (intOf i).toNat)
  case atStart => exact ⟨0, Nat.zero_le _, rfl, Owns.nil _ _ _, hw1, hat1⟩
  case round =>
    obtain ⟨k, hk, rfl, hown, hb, hatr⟩ := hrel
    have hGr : wr.heap[w.heap.size]? = some (.cells #[.int .i64 W, .int .i64 H, .slice a cells.length cap, .bool J] 66 (0, 0)) := by rw [hb.block _ (by omega)]; exact HG1.out
    have hGlt := block_lt hGr
    have hf0 := cell_of_block hGr 0
    have hf1 := cell_of_block hGr 1
    have hf2 := cell_of_block hGr 2
    have hf3 := cell_of_block hGr 3
    simp at hf0 hf1 hf2 hf3
    clear hGr
    by_cases hlt : k < H
    · have hlen : ((rowsM cells W H).take k).length = k := by simp; omega
      have hnext : txts ((rowsM cells W H).take k) ++ [.string ⟨(rowM cells W k).toArray⟩] = txts ((rowsM cells W H).take (k + 1)) := by
        rw [txts_snoc, List.take_add_one, List.getElem?_eq_getElem (by simpa using hlt), rowsM_get]
        rfl
      go_wp2_with fail
      refine (rowText_any W H a cells cap k _ hatr hcap HN.out HW.out hH8 hlt).mono ?_
      rintro e w2 ⟨rfl, hb2⟩
      have hown2 := hown.later hb2
      have s2 := hb2.size
      go_wp2_with (at_builtin; refine wpList_app1 rfl _ _ _ rfl _ _ _ _ elemStr _ _ _ _ rfl rfl rfl hown2 rfl (by simp; omega) (by omega) (by simp; omega) ?_; intro v1 w4 hown1 hb4 hs4)
      rw [hnext] at hown1
      have hat2 := hatr.later rfl hb2
      have hb24 : Below (w.heap.size + 1) w1 w4 := (hb.trans (hb2.mono (by omega))).trans hb4
      have hat4 : At w4 a (byts cells) := hat1.below hat1 (by omega) hb24
      go_roundw
      case rel => exact ⟨k + 1, by omega, by go_num, hown1, hb24, hat4⟩
      case measure => simp [intOf]; omega
    · obtain rfl : k = H := by omega
      clear hlt hk
      have hall : (rowsM cells W k).take k = rowsM cells W k := List.take_of_length_le (by simp)
      rw [hall] at hown
      obtain ⟨a', cap', hv⟩ := hown.shape
      simp only [txts_length, rowsM_length] at hv
      subst hv
      obtain ⟨bk, o, he, hblk⟩ := (hown.at).lt (by simp; omega)
      subst he
      have hcp := Owns.cap hown
      have hz := hown.at
      have hcells : ∀ (j : Nat) x, ((rowsM cells W k).map fun l => ByteArray.mk l.toArray)[j]? = some x → wr.cell? ⟨bk, o + j, none⟩ = some (.string x) := by
        intro j x hx
        have hj : j < (rowsM cells W k).length := by
          rcases Nat.lt_or_ge j (rowsM cells W k).length with h | h
          · exact h
          · rw [List.getElem?_eq_none (by simpa using h)] at hx; cases hx
        obtain ⟨b2, o2, h1, h2⟩ := txts_at hz j hj
        simp only [Option.some.injEq, Addr.mk.injEq, and_true] at h1
        obtain ⟨rfl, rfl⟩ := h1
        rw [h2]
        rw [List.getElem?_map, List.getElem?_eq_getElem hj] at hx
        simp at hx
        rw [hx]
      have hj := Try.strings_Join bk o cap' ((rowsM cells W k).map fun l => ByteArray.mk l.toArray) ⟨#[47]⟩ wr hcells hblk (by simp; omega) (by simpa using hcp)
      have hmm : ((rowsM cells W k).map fun l => ByteArray.mk l.toArray).map (·.data.toList) = rowsM cells W k := by
        rw [List.map_map]
        exact (List.map_congr_left (fun x _ => by simp)).trans (List.map_id _)
      rw [hmm] at hj
      have hj2 := hj (by rw [← HT.out]; omega)
      simp only [List.length_map, rowsM_length] at hj2
      go_wp2_with fail
      refine hj2.mono ?_
      rintro e w5 ⟨rfl, hb5⟩
      go_wp2_with fail
      go_ret
      refine ⟨by rw [HT.out]; rfl, ?_⟩
      exact (hw0.trans (hb.mono (by omega))).trans (hb5.mono (by omega))
end Go.Proofs.Ythlbplmghjaeoae
