/- T1, T2, T3, laid as one text. -/
import Derived.Test.YthlbplmghjaeoaeGN1
import Derived.Outline
import Derived.Lib.Join

/- Walks: the rows of a grid as texts. -/
namespace Go.Proofs.Ythlbplmghjaeoae
open Go.RowKit

theorem Owns.cap {w : World} {B e : Nat} {a : Option Addr} {n cap : Nat} {xs : List Value} (h : Owns w B e (.slice a n cap) xs) : n ≤ cap := by
  obtain ⟨h1, h2⟩ := h
  rcases h2 with ⟨hv, _⟩ | ⟨g, cap', cur, hv, hg, hh, hle, _⟩
  · simp at hv; omega
  · simp at hv; omega

/-- Row k of some cells of a width. -/
def rowM (cells : List UInt8) (W k : Nat) : List UInt8 := (cells.drop (k * W)).take W

set_option maxRecDepth 100000 in
set_option maxHeartbeats 1600000 in
theorem rowText_any {J : Bool} (W H : Nat) (a : Option Addr) (cells : List UInt8) (cap : Nat) (k : Nat) (w : World) (hat : At w a (byts cells)) (hcap : cells.length ≤ cap) (hn : cells.length = W * H) (hW : 1 ≤ W ∧ W ≤ 8) (hH : H ≤ 8) (hk : k < H) :
    Calls Try.prog 75 #[.agg #[.int .i64 W, .int .i64 H, .slice a cells.length cap, .bool J], .int .i64 k] w fun e w' => e = .returned (.string ⟨(rowM cells W k).toArray⟩) ∧ Below w.heap.size w w' := by
  obtain ⟨hW1, hW8⟩ := hW
  have hq : k * W + W ≤ cells.length := by
    rw [hn, ← Nat.succ_mul, Nat.mul_comm]; exact Nat.mul_le_mul_left W hk
  have h64 : cells.length ≤ 64 := by rw [hn]; exact Nat.mul_le_mul hW8 hH
  have e1 : ((k : Int) * (W : Int)) = ((k * W : Nat) : Int) := by simp
  have e2 : (((k : Int) + 1) * (W : Int)) = ((k * W : Nat) : Int) + (W : Int) := by rw [Int.add_mul, e1]; omega
  obtain ⟨p, hp⟩ : ∃ p, k * W = p := ⟨_, rfl⟩
  rw [hp] at e1 e2 hq
  have HP := Lib.hid hp
  clear hp
  have m1 : wrap64 ((k : Int) * (W : Int)) = (p : Int) := by rw [e1, IntWalk.wrap64_in _ ⟨by omega, by omega⟩]
  have m2 : wrap64 (((k : Int) + 1) * (W : Int)) = (p : Int) + (W : Int) := by rw [e2, IntWalk.wrap64_in _ ⟨by omega, by omega⟩]
  have HN := Lib.hid hn
  clear hn e1 e2
  obtain ⟨b, off, he, hc0⟩ := byts_at hat 0 (by omega)
  subst he
  have hbl := World.block_lt_of_cell? w _ hc0
  have hcells : ∀ o, ∀ j (hj : j < (rowM cells W k).length), (w.alloc o).cell? ((⟨b, off + p, none⟩ : Addr).add j) = some (.int .u8 ((rowM cells W k)[j].toNat : Int)) := by
    intro o j hj
    have hj' : j < W := by simp [rowM] at hj; omega
    obtain ⟨b', off', he', hc'⟩ := byts_at hat (p + j) (by omega)
    simp only [Option.some.injEq, Addr.mk.injEq, and_true] at he'
    obtain ⟨rfl, rfl⟩ := he'
    have e3 : (⟨b, off + p, none⟩ : Addr).add j = ⟨b, off + (p + j), none⟩ := by
      unfold Addr.add
      by_cases hz : j = 0
      · subst hz; rw [if_pos rfl]; rfl
      · rw [if_neg hz]; simp [Nat.add_assoc]
    rw [e3, cell_new w o b hbl, hc']
    simp [rowM, HP.out]
  have hlen : Hid ((rowM cells W k).length = W) := by rw [Hid, rowM, HP.out]; simp; omega
  have hcv := fun o c => run_convert_bytes_back (P := Try.prog) (w.alloc o) 64 9 5 ⟨b, off + p, none⟩ c (rowM cells W k) Try.underlying64 Try.underlying5 Try.underlying9 (hcells o)
  rw [hlen.out] at hcv
  clear hcells hc0
  go_enter Try.func75, Try.ntmps75
  go_wp2_with fail
  go_ret
  exact ⟨rfl, (Below.refl _ _).alloc (Nat.le_refl _) _⟩
end Go.Proofs.Ythlbplmghjaeoae

/- Walks: a grid as a text of rows; the model of it. -/
namespace Go.Proofs.Ythlbplmghjaeoae
open Go.RowKit

/-- The rows of some cells of a width. -/
def rowsM (cells : List UInt8) (W : Nat) : Nat → List (List UInt8)
  | 0 => []
  | H + 1 => cells.take W :: rowsM (cells.drop W) W H
@[simp] theorem rowsM_length (W : Nat) : ∀ (H : Nat) (cells : List UInt8), (rowsM cells W H).length = H
  | 0, _ => rfl
  | H + 1, cells => by rw [rowsM, List.length_cons, rowsM_length W H]
theorem rowsM_get (W : Nat) : ∀ (H k : Nat) (cells : List UInt8) (h : k < (rowsM cells W H).length), (rowsM cells W H)[k] = rowM cells W k
  | 0, _, _, h => by simp [rowsM] at h
  | H + 1, 0, cells, _ => by simp [rowsM, rowM]
  | H + 1, k + 1, cells, h => by
    simp only [rowsM, List.getElem_cons_succ]
    rw [rowsM_get W H k (cells.drop W)]
    simp only [rowM, List.drop_drop]
    congr 2
    rw [Nat.succ_mul, Nat.add_comm]
theorem rowsM_part (W : Nat) : ∀ (H : Nat) (cells : List UInt8), ∀ x ∈ rowsM cells W H, x.length ≤ W
  | 0, _, x, h => by simp [rowsM] at h
  | H + 1, cells, x, h => by
    rcases List.mem_cons.1 h with rfl | h
    · exact List.length_take_le _ _
    · exact rowsM_part W H (cells.drop W) x h

/-- The text of some cells in rows of a width. -/
def textM (cells : List UInt8) (W H : Nat) : List UInt8 := Lib.join (rowsM cells W H) [47]
theorem lens_le (n : Nat) : ∀ xs : List (List UInt8), (∀ x ∈ xs, x.length ≤ n) → Lib.lens xs ≤ xs.length * n
  | [], _ => by simp [Lib.lens]
  | x :: r, h => by
    have h1 := lens_le n r (fun y hy => h y (List.mem_cons_of_mem _ hy))
    have h2 := h x (List.mem_cons_self ..)
    have : Lib.lens (x :: r) = x.length + Lib.lens r := by simp [Lib.lens]
    rw [this, List.length_cons, Nat.add_mul]
    omega
theorem textM_le (cells : List UInt8) (W H : Nat) (hW : W ≤ 8) (hH : H ≤ 8) : (textM cells W H).length ≤ 72 := by
  unfold textM
  cases h : rowsM cells W H with
  | nil => simp [Lib.join_nil]
  | cons x r =>
    rw [Lib.join_length, ← h]
    have h1 := lens_le W _ (rowsM_part W H cells)
    have h2 : r.length + 1 = H := by
      have := congrArg List.length h
      simpa using this.symm
    have h3 : H * W ≤ 8 * 8 := Nat.mul_le_mul hH hW
    simp at h1 ⊢
    omega

/-- Cells as rows of a width, sign by sign. -/
def brGo (W : Nat) : Nat → List UInt8 → List UInt8
  | _, [] => []
  | k, c :: r => (if 0 < k ∧ k % W = 0 then [47] else []) ++ c :: brGo W (k + 1) r
theorem brGo_in (W m : Nat) : ∀ (x r : List UInt8) (j : Nat), 0 < j → j + x.length ≤ W → brGo W (m * W + j) (x ++ r) = x ++ brGo W (m * W + j + x.length) r
  | [], r, j, _, _ => by simp
  | c :: x, r, j, h0, hj => by
    rw [List.length_cons] at hj
    have hne : ¬ (0 < m * W + j ∧ (m * W + j) % W = 0) := by
      rintro ⟨_, h2⟩
      rw [Nat.add_comm, Nat.add_mul_mod_self_right, Nat.mod_eq_of_lt (by omega)] at h2
      omega
    have ih := brGo_in W m x r (j + 1) (by omega) (by omega)
    simp only [List.cons_append, brGo, if_neg hne, List.nil_append, List.length_cons]
    rw [show m * W + j + 1 = m * W + (j + 1) by omega, ih, show m * W + (j + 1) + x.length = m * W + j + (x.length + 1) by omega]
theorem brGo_row (W m : Nat) (x r : List UInt8) (hx : x.length = W) (hW : 1 ≤ W) : brGo W (m * W) (x ++ r) = (if 0 < m then [47] else []) ++ x ++ brGo W ((m + 1) * W) r := by
  cases x with
  | nil => simp at hx; omega
  | cons c x =>
    have h := brGo_in W m x r 1 (by omega) (by simp at hx; omega)
    simp only [List.cons_append, brGo]
    rw [h, Nat.mul_mod_left]
    have e : (0 < m * W ∧ (0 : Nat) = 0) ↔ 0 < m := by
      constructor
      · rintro ⟨h1, _⟩
        rcases Nat.eq_zero_or_pos m with rfl | h2
        · simp at h1
        · exact h2
      · intro h1; exact ⟨Nat.mul_pos h1 hW, rfl⟩
    have e2 : m * W + 1 + x.length = (m + 1) * W := by rw [Nat.add_mul]; simp at hx; omega
    rw [e2]
    by_cases hm : 0 < m
    · rw [if_pos (e.2 hm), if_pos hm]; simp
    · rw [if_neg (fun q => hm (e.1 q)), if_neg hm]; simp
theorem brGo_tail (W : Nat) (hW : 1 ≤ W) : ∀ (H m : Nat) (cells : List UInt8), 0 < m → cells.length = W * H → brGo W (m * W) cells = Lib.joinTail [47] (rowsM cells W H)
  | 0, m, cells, _, hn => by
    have : cells = [] := List.eq_nil_of_length_eq_zero (by simpa using hn)
    subst this
    simp [brGo, rowsM, Lib.joinTail]
  | H + 1, m, cells, hm, hn => by
    have hle : W ≤ cells.length := by rw [hn, Nat.mul_add]; omega
    have ih := brGo_tail W hW H (m + 1) (cells.drop W) (by omega) (by rw [List.length_drop, hn, Nat.mul_add]; omega)
    have h := brGo_row W m (cells.take W) (cells.drop W) (by rw [List.length_take]; omega) hW
    rw [List.take_append_drop] at h
    rw [h, ih, if_pos hm]
    simp [rowsM, Lib.joinTail]
theorem brGo_text (W H : Nat) (hW : 1 ≤ W) (cells : List UInt8) (hn : cells.length = W * H) : brGo W 0 cells = textM cells W H := by
  cases H with
  | zero =>
    have : cells = [] := List.eq_nil_of_length_eq_zero (by simpa using hn)
    subst this
    rfl
  | succ H =>
    have hle : W ≤ cells.length := by rw [hn, Nat.mul_add]; omega
    have ih := brGo_tail W hW H 1 (cells.drop W) (by omega) (by rw [List.length_drop, hn, Nat.mul_add]; omega)
    have h := brGo_row W 0 (cells.take W) (cells.drop W) (by rw [List.length_take]; omega) hW
    rw [List.take_append_drop, Nat.zero_mul] at h
    rw [h]
    rw [Nat.zero_add, ih, if_neg (by omega)]
    simp only [textM, rowsM]
    rw [Lib.join_cons]
    rfl

set_option maxRecDepth 100000 in
set_option maxHeartbeats 1600000 in
theorem text_some {J : Bool} (W H : Nat) (a : Option Addr) (cells : List UInt8) (cap : Nat) (w : World) (hat : At w a (byts cells)) (hcap : cells.length ≤ cap) (hn : cells.length = W * H) (hW : 1 ≤ W ∧ W ≤ 8) (hH : 1 ≤ H ∧ H ≤ 8) :
    Calls Try.prog 62 #[.agg #[.int .i64 W, .int .i64 H, .slice a cells.length cap, .bool J]] w fun e w' => e = .returned (.string ⟨(textM cells W H).toArray⟩) ∧ Below w.heap.size w w' := by
  have HT := Lib.hid (show textM cells W H = Lib.join (rowsM cells W H) [47] from rfl)
  have htl := textM_le cells W H hW.2 hH.2
  have HN := Lib.hid hn
  have HW := Lib.hid hW
  obtain ⟨hH1, hH8⟩ := hH
  clear hn hW
  go_enter Try.func62, Try.ntmps62
  go_wp2_with fail
  have hw1 : Below (w.heap.size + 1) (w.alloc (.cells #[.int .i64 W, .int .i64 H, .slice a cells.length cap, .bool J] 66)) (w.alloc (.cells #[.int .i64 W, .int .i64 H, .slice a cells.length cap, .bool J] 66)) := Below.refl _ _
  have hG1 : (w.alloc (.cells #[.int .i64 W, .int .i64 H, .slice a cells.length cap, .bool J] 66)).heap[w.heap.size]? = some (.cells #[.int .i64 W, .int .i64 H, .slice a cells.length cap, .bool J] 66 (0, 0)) := heap_alloc_new w _
  have hw0 : Below w.heap.size w (w.alloc (.cells #[.int .i64 W, .int .i64 H, .slice a cells.length cap, .bool J] 66)) := (Below.refl _ _).alloc (Nat.le_refl _) _
  have hs1 : (w.alloc (.cells #[.int .i64 W, .int .i64 H, .slice a cells.length cap, .bool J] 66)).heap.size = w.heap.size + 1 := by simp
  generalize w.alloc (.cells #[.int .i64 W, .int .i64 H, .slice a cells.length cap, .bool J] 66) = w1 at *
  have hat1 : At w1 a (byts cells) := hat.later rfl hw0
  have HG1 := Lib.hid hG1
  clear hG1
  go_loopw [3, 7] (fun v i wr => ∃ k : Nat, k ≤ H ∧ i = .int .i64 k ∧ Owns wr (w.heap.size + 1) 9 v (txts ((rowsM cells W H).take k)) ∧ Below (w.heap.size + 1) w1 wr ∧ At wr a (byts cells)) (fun _ i _ => H - (intOf i).toNat)
  case atStart => exact ⟨0, Nat.zero_le _, rfl, Owns.nil _ _ _, hw1, hat1⟩
  case round =>
    obtain ⟨k, hk, rfl, hown, hb, hatr⟩ := hrel
    have hGr : wr.heap[w.heap.size]? = some (.cells #[.int .i64 W, .int .i64 H, .slice a cells.length cap, .bool J] 66 (0, 0)) := by rw [hb.block _ (by omega)]; exact HG1.out
    have hGlt := block_lt hGr
    have hf0 := cell_of_block hGr 0
    have hf1 := cell_of_block hGr 1
    have hf2 := cell_of_block hGr 2
    have hf3 := cell_of_block hGr 3
    simp at hf0 hf1 hf2 hf3
    clear hGr
    by_cases hlt : k < H
    · have hlen : ((rowsM cells W H).take k).length = k := by simp; omega
      have hnext : txts ((rowsM cells W H).take k) ++ [.string ⟨(rowM cells W k).toArray⟩] = txts ((rowsM cells W H).take (k + 1)) := by
        rw [txts_snoc, List.take_add_one, List.getElem?_eq_getElem (by simpa using hlt), rowsM_get]
        rfl
      go_wp2_with fail
      refine (rowText_any W H a cells cap k _ hatr hcap HN.out HW.out hH8 hlt).mono ?_
      rintro e w2 ⟨rfl, hb2⟩
      have hown2 := hown.later hb2
      have s2 := hb2.size
      go_wp2_with (at_builtin; refine wpList_app1 rfl _ _ _ rfl _ _ _ _ elemStr _ _ _ _ rfl rfl rfl hown2 rfl (by simp; omega) (by omega) (by simp; omega) ?_; intro v1 w4 hown1 hb4 hs4)
      rw [hnext] at hown1
      have hat2 := hatr.later rfl hb2
      have hb24 : Below (w.heap.size + 1) w1 w4 := (hb.trans (hb2.mono (by omega))).trans hb4
      have hat4 : At w4 a (byts cells) := hat1.below hat1 (by omega) hb24
      go_roundw
      case rel => exact ⟨k + 1, by omega, by go_num, hown1, hb24, hat4⟩
      case measure => simp [intOf]; omega
    · obtain rfl : k = H := by omega
      clear hlt hk
      have hall : (rowsM cells W k).take k = rowsM cells W k := List.take_of_length_le (by simp)
      rw [hall] at hown
      obtain ⟨a', cap', hv⟩ := hown.shape
      simp only [txts_length, rowsM_length] at hv
      subst hv
      obtain ⟨bk, o, he, hblk⟩ := (hown.at).lt (by simp; omega)
      subst he
      have hcp := Owns.cap hown
      have hz := hown.at
      have hcells : ∀ (j : Nat) x, ((rowsM cells W k).map fun l => ByteArray.mk l.toArray)[j]? = some x → wr.cell? ⟨bk, o + j, none⟩ = some (.string x) := by
        intro j x hx
        have hj : j < (rowsM cells W k).length := by
          rcases Nat.lt_or_ge j (rowsM cells W k).length with h | h
          · exact h
          · rw [List.getElem?_eq_none (by simpa using h)] at hx; cases hx
        obtain ⟨b2, o2, h1, h2⟩ := txts_at hz j hj
        simp only [Option.some.injEq, Addr.mk.injEq, and_true] at h1
        obtain ⟨rfl, rfl⟩ := h1
        rw [h2]
        rw [List.getElem?_map, List.getElem?_eq_getElem hj] at hx
        simp at hx
        rw [hx]
      have hj := Try.strings_Join bk o cap' ((rowsM cells W k).map fun l => ByteArray.mk l.toArray) ⟨#[47]⟩ wr hcells hblk (by simp; omega) (by simpa using hcp)
      have hmm : ((rowsM cells W k).map fun l => ByteArray.mk l.toArray).map (·.data.toList) = rowsM cells W k := by
        rw [List.map_map]
        exact (List.map_congr_left (fun x _ => by simp)).trans (List.map_id _)
      rw [hmm] at hj
      have hj2 := hj (by rw [← HT.out]; omega)
      simp only [List.length_map, rowsM_length] at hj2
      go_wp2_with fail
      refine hj2.mono ?_
      rintro e w5 ⟨rfl, hb5⟩
      go_wp2_with fail
      go_ret
      refine ⟨by rw [HT.out]; rfl, ?_⟩
      exact (hw0.trans (hb.mono (by omega))).trans (hb5.mono (by omega))
end Go.Proofs.Ythlbplmghjaeoae

/- Walks: cells as rows by the model; a grid's text in any case. -/
namespace Go.Proofs.Ythlbplmghjaeoae
open Go.RowKit

theorem brGo_le (W : Nat) : ∀ (x : List UInt8) (k : Nat), (brGo W k x).length ≤ 2 * x.length
  | [], _ => by simp [brGo]
  | c :: r, k => by
    have := brGo_le W r (k + 1)
    unfold brGo
    split <;> simp <;> omega

set_option maxRecDepth 100000 in
set_option maxHeartbeats 1600000 in
theorem boRows_any (cells : List UInt8) (W : Nat) (w : World) (hl : cells.length ≤ 64) (hW : 1 ≤ W) (hW2 : W ≤ 1048576) :
    Calls Try.prog 32 #[.string ⟨cells.toArray⟩, .int .i64 W] w fun e w' => e = .returned (.string ⟨(brGo W 0 cells).toArray⟩) ∧ w = w' := by
  go_enter Try.func32, Try.ntmps32
  go_wp2_with fail
  go_loop [5, 6] (fun o i => ∃ k : Nat, k ≤ cells.length ∧ i = .int .i64 k ∧ ∃ acc : List UInt8, acc.length ≤ 2 * k ∧ o = .string ⟨acc.toArray⟩ ∧ Hid (brGo W 0 cells = acc ++ brGo W k (cells.drop k))) (fun _ i => cells.length - (intOf i).toNat)
  case atStart => exact ⟨0, Nat.zero_le _, rfl, [], by simp, rfl, by simp [Hid]⟩
  case round =>
    obtain ⟨k, hk, rfl, acc, hacc, rfl, hR⟩ := hrel
    by_cases hlt : k < cells.length
    · have Ht := Lib.hid (List.drop_eq_getElem_cons hlt)
      have e1 : Hid ((cells.drop k).take 1 = [cells[k]]) := by
        rw [Hid, Ht.out]; rfl
      rcases Nat.eq_zero_or_pos k with h0 | h0
      · subst h0
        go_wp2_with fail
        go_round
        case rel => exact ⟨0 + 1, by omega, by go_num, acc ++ [cells[0]], by simp; omega, by rw [← e1.out]; rfl, by rw [Hid, hR.out, Ht.out, brGo, if_neg (by omega)]; simp⟩
        case measure => simp [intOf]; omega
      · have hp : ((k : Int) > 0) := by omega
        have hm : Int.tmod (k : Int) (W : Int) = ((k % W : Nat) : Int) := by rw [Int.tmod_eq_emod_of_nonneg (by omega)]; simp
        by_cases hz : k % W = 0
        · have hz' : (((k % W : Nat) : Int) == 0) = true := by rw [hz]; rfl
          have Hz := Lib.hid hz
          clear hz
          go_wp2_with fail
          go_round
          case rel => exact ⟨k + 1, by omega, by go_num, acc ++ 47 :: [cells[k]], by simp; omega, by rw [e1.out], by rw [Hid, hR.out, Ht.out, brGo, if_pos ⟨h0, Hz.out⟩]; simp⟩
          case measure => simp [intOf]; omega
        · have hz' : (((k % W : Nat) : Int) == 0) = false := by
            rw [beq_eq_false_iff_ne]; omega
          have Hz := Lib.hid hz
          clear hz
          go_wp2_with fail
          go_round
          case rel => exact ⟨k + 1, by omega, by go_num, acc ++ [cells[k]], by simp; omega, by rw [e1.out], by rw [Hid, hR.out, Ht.out, brGo, if_neg (fun q => Hz.out q.2)]; simp⟩
          case measure => simp [intOf]; omega
    · obtain rfl : k = cells.length := by omega
      go_wp2_with fail
      go_ret
      exact ⟨by rw [hR.out]; simp [brGo], rfl⟩

set_option maxRecDepth 100000 in
set_option maxHeartbeats 1600000 in
theorem text_none (a : Option Addr) (cap : Nat) (w : World) :
    Calls Try.prog 62 #[.agg #[.int .i64 0, .int .i64 0, .slice a 0 cap, .bool false]] w fun e w' => e = .returned (.string ⟨#[]⟩) ∧ Below w.heap.size w w' := by
  have hj := fun wr => Try.strings_Join_none none 0 ⟨#[47]⟩ wr
  go_enter Try.func62, Try.ntmps62
  go_wp2_with fail
  go_loopw [3, 7] (fun v i wr => i = .int .i64 0 ∧ v = .slice none 0 0 ∧ Below w.heap.size w wr) (fun _ _ _ => 0)
  case atStart => exact ⟨rfl, rfl, (Below.refl _ _).alloc (Nat.le_refl _) _⟩
  case round =>
    obtain ⟨rfl, rfl, hb⟩ := hrel
    go_wp2_with fail
    refine (hj _).mono ?_
    rintro e w5 ⟨rfl, rfl⟩
    go_wp2_with fail
    go_ret
    exact ⟨rfl, hb⟩

theorem Owns.put {w : World} {B e g n cap : Nat} {xs : List Value} (h : Owns w B e (.slice (some ⟨g, 0, none⟩) n cap) xs) (j : Nat) (u : Value) :
    Owns (w.setCell ⟨g, j, none⟩ u) B e (.slice (some ⟨g, 0, none⟩) n cap) (xs.set j u) := by
  obtain ⟨a', cap', hv⟩ := h.shape
  have hn : n = xs.length := by simp at hv; exact hv.2.1
  subst hn
  have := (World.ownsRow.stored h j u).1
  unfold Owns
  rw [List.length_set]
  exact this
theorem Owns.zero {w : World} {B e n cap : Nat} {a : Option Addr} {xs : List Value} (h : Owns w B e (.slice a n cap) xs) (h0 : 0 < xs.length) :
    ∃ g, a = some ⟨g, 0, none⟩ ∧ B ≤ g ∧ g < w.heap.size := by
  obtain ⟨_, h2⟩ := id h
  rcases h2 with ⟨_, hn⟩ | ⟨g, cap', cur, hv, hg, _⟩
  · omega
  · simp at hv
    obtain ⟨rfl, _, _⟩ := hv
    exact ⟨g, rfl, h.lt g rfl⟩
theorem Owns.froz {w : World} {B e g n cap : Nat} {xs : List Value} (h : Owns w B e (.slice (some ⟨g, 0, none⟩) n cap) xs) (j : Nat) : w.frozen? ⟨g, j, none⟩ = false := by
  obtain ⟨a', cap', hv⟩ := h.shape
  simp at hv
  obtain ⟨_, rfl, _⟩ := hv
  exact World.ownsRow.frozenAt (n := xs.length) (cap := cap) h j
theorem byts_set (l : List UInt8) (k : Nat) (c : UInt8) : (byts l).set k (.int .u8 (c.toNat : Int)) = byts (l.set k c) := by
  simp [byts, List.map_set]

/-- A grid as a text: of a board, or of none. -/
theorem text_any (W H : Nat) (a : Option Addr) (cells : List UInt8) (cap : Nat) (w : World) (hat : At w a (byts cells)) (hcap : cells.length ≤ cap) (hn : cells.length = W * H) (hWH : (W = 0 ∧ H = 0) ∨ ((1 ≤ W ∧ W ≤ 8) ∧ (1 ≤ H ∧ H ≤ 8))) :
    Calls Try.prog 62 #[.agg #[.int .i64 W, .int .i64 H, .slice a cells.length cap, .bool false]] w fun e w' => e = .returned (.string ⟨(textM cells W H).toArray⟩) ∧ Below w.heap.size w w' := by
  rcases hWH with ⟨rfl, rfl⟩ | ⟨h1, h2⟩
  · rw [show cells.length = 0 by simpa using hn]
    exact text_none a cap w
  · exact text_some W H a cells cap w hat hcap hn h1 h2
theorem gSize (l : List UInt8) : (gW l = 0 ∧ gH l = 0) ∨ ((1 ≤ gW l ∧ gW l ≤ 8) ∧ (1 ≤ gH l ∧ gH l ≤ 8)) := by
  by_cases hg : boGoodM l = true
  · have hB := Brd.of hg
    obtain ⟨g1, g2, _⟩ := hB.grid
    right
    rw [g1, g2]
    exact ⟨⟨hB.w1, hB.w8⟩, hB.h1, hB.h8⟩
  · left; simp [gW, gH, hg]
end Go.Proofs.Ythlbplmghjaeoae
