/- Walks: the numbers of all cells, by the model. -/
import Derived.Test.YthlbplmghjaeoaaDoorN4
import Derived.Lib.OthersKept
import Derived.Outline
namespace Go.Proofs.YthlbplmghjaeoaaDoor
open Go.RowKit

theorem iterAt_size (w : World) (i : Nat) (s : ByteArray) (p : Nat) : (w.iterAt i s p).heap.size = w.heap.size := by simp [World.iterAt]
theorem iterAt_at {w : World} {i : Nat} (h : i < w.heap.size) (s : ByteArray) (p : Nat) : (w.iterAt i s p).heap[i]? = some (.stringIter s p) := by
  simp [World.iterAt, h]
theorem iterAt_below (w : World) (i : Nat) (s : ByteArray) (p : Nat) : Below i w (w.iterAt i s p) :=
  ⟨rfl, rfl, rfl, by simp [World.iterAt], fun k hk => by simp only [World.iterAt, Array.getElem?_setIfInBounds]; rw [if_neg (by omega)]⟩
theorem iterPos_at {w : World} {i : Nat} {s : ByteArray} {p : Nat} (h : w.heap[i]? = some (.stringIter s p)) : w.iterPos i = p := by simp [World.iterPos, h]
theorem Owns.iter {w : World} {B e : Nat} {v : Value} {xs : List Value} (h : Owns w B e v xs) (i : Nat) (s : ByteArray) (p : Nat) (hi : i < B) : Owns (w.iterAt i s p) B e v xs := by
  obtain ⟨h1, h2⟩ := h
  refine ⟨h1, ?_⟩
  rcases h2 with h2 | ⟨g, cap, cur, hv, hg, hh, r⟩
  · exact .inl h2
  · exact .inr ⟨g, cap, cur, hv, hg, by simp only [World.iterAt, Array.getElem?_setIfInBounds]; rw [if_neg (by omega)]; exact hh, r⟩

/-- The cells of a board are two signs alone. -/
theorem cells_sign {l : List UInt8} (h : boGoodM l = true) : ∀ c ∈ cellsM l, c = 46 ∨ c = 42 := by
  obtain ⟨_, _, _, _, _, _, _, f8⟩ := readM_facts h
  intro c hc
  rw [← splitB_flatten] at hc
  obtain ⟨r, hr, hcr⟩ := List.mem_flatten.1 hc
  have := List.all_eq_true.1 (List.all_eq_true.1 f8 r hr) c hcr
  simpa [rowSign] using this
theorem sign_ascii {c : UInt8} (h : c = 46 ∨ c = 42) : c.toNat < 128 := by rcases h with rfl | rfl <;> decide

def numsGo (cells : List UInt8) (W : Geo) (k : Nat) : Nat → List Nat
  | 0 => []
  | m + 1 => numM cells W k :: numsGo cells W (k + 1) m
def numsM (cells : List UInt8) (W : Geo) : List Nat := numsGo cells W 0 cells.length
theorem numsGo_length (cells : List UInt8) (W : Geo) : ∀ (m k : Nat), (numsGo cells W k m).length = m
  | 0, _ => rfl
  | m + 1, k => by rw [numsGo, List.length_cons, numsGo_length]
@[simp] theorem numsM_length (cells : List UInt8) (W : Geo) : (numsM cells W).length = cells.length := numsGo_length _ _ _ _

/-- What rows give: their width, how many they are and their cells. -/
structure Grd (l : List UInt8) (W H : Nat) (cells : List UInt8) : Prop where
  size : boSizeM l = (W, H)
  cs : cellsM l = cells
  w1 : 1 ≤ W
  w8 : W ≤ 8
  h1 : 1 ≤ H
  h8 : H ≤ 8
  len : cells.length = W * H
theorem Grd.n64 {l : List UInt8} {W H : Nat} {cells : List UInt8} (h : Grd l W H cells) : cells.length ≤ 64 := by
  rw [h.len]; exact Nat.mul_le_mul h.w8 h.h8
theorem size_grid {p : UInt8 → Bool} {l : List UInt8} (h : gridM p l = true) : boSizeM l = (headLen (splitB 47 l), (splitB 47 l).length) := by
  obtain ⟨_, f1, f2, f3, f4, _, _, _⟩ := grid_facts h
  unfold boSizeM szOf
  rw [if_pos ⟨f1, f4, f2, f3⟩]
theorem Grd.of {p : UInt8 → Bool} {l : List UInt8} (h : gridM p l = true) : Grd l (grW p l) (grH p l) (grC p l) := by
  obtain ⟨_, f1, f2, f3, f4, f5, f6, _⟩ := grid_facts h
  rw [grW, grH, grC, if_pos h, if_pos h, if_pos h]
  exact ⟨size_grid h, rfl, f2, f3, f5, f4, f6⟩
/-- What a board gives: its width, its height and its cells. -/
structure Brd (l : List UInt8) (W H : Nat) (cells : List UInt8) : Prop where
  good : boGoodM l = true
  size : boSizeM l = (W, H)
  cs : cellsM l = cells
  w1 : 1 ≤ W
  w8 : W ≤ 8
  h1 : 1 ≤ H
  h8 : H ≤ 8
  len : cells.length = W * H
  sign : ∀ c ∈ cells, c = 46 ∨ c = 42
theorem Brd.grd {l : List UInt8} {W H : Nat} {cells : List UInt8} (h : Brd l W H cells) : Grd l W H cells := ⟨h.size, h.cs, h.w1, h.w8, h.h1, h.h8, h.len⟩
theorem Brd.of {l : List UInt8} (h : boGoodM l = true) : Brd l (headLen (splitB 47 l)) (splitB 47 l).length (cellsM l) := by
  obtain ⟨f1, f2, f3, f4, f5, f6, f7, f8⟩ := readM_facts h
  exact ⟨h, f6, rfl, f2, f3, f5, f4, f7, cells_sign h⟩
theorem Brd.n64 {l : List UInt8} {W H : Nat} {cells : List UInt8} (h : Brd l W H cells) : cells.length ≤ 64 := by
  rw [h.len]; exact Nat.mul_le_mul h.w8 h.h8
theorem Brd.grid {l : List UInt8} {W H : Nat} {cells : List UInt8} (h : Brd l W H cells) : gW l = W ∧ gH l = H ∧ gCells l = cells := by
  refine ⟨?_, ?_, ?_⟩
  · rw [gW, if_pos h.good, h.size]
  · rw [gH, if_pos h.good, h.size]
  · rw [gCells, if_pos h.good, h.cs]

set_option maxRecDepth 100000 in
set_option maxHeartbeats 1600000 in
theorem boNumbers_any (l : List UInt8) (W H : Nat) (cells : List UInt8) (w : World) (hl : l.length ≤ 1048576) (hB : Brd l W H cells) :
    Calls Tryd.prog 112 #[.string ⟨l.toArray⟩] w fun e w' => ∃ a cap, e = .returned (.slice a cells.length cap) ∧ Owns w' w.heap.size 3 (.slice a cells.length cap) (nats (numsM cells W)) ∧ Below w.heap.size w w' := by
  have hn64 := hB.n64
  have HS := Lib.hid hB.size
  have HC := Lib.hid hB.cs
  have HL := Lib.hid hB.len
  have hsg := hB.sign
  have hw1 := hB.w1
  have hw8 := hB.w8
  have hh8 := hB.h8
  have hT : Hid (numsM cells W = numsGo cells W 0 cells.length) := rfl
  clear hB
  go_enter Tryd.func112, Tryd.ntmps112
  go_wp2_with fail
  refine (boSize_any l _ hl).mono ?_
  rintro e w1 ⟨rfl, hb1⟩
  rw [HS.out]
  go_wp2_with fail
  refine (boCells_any l _ hl).mono ?_
  rintro e w1' ⟨rfl, rfl⟩
  rw [HC.out]
  go_wp2_with fail
  have hI : (w1.iter ⟨cells.toArray⟩ 0).heap[w1.heap.size]? = some (.stringIter ⟨cells.toArray⟩ 0) := World.iter_heap w1 _ _
  have hb2 : Below w1.heap.size w1 (w1.iter ⟨cells.toArray⟩ 0) := (Below.refl _ _).alloc (Nat.le_refl _) _
  have hs2 : w1.heap.size < (w1.iter ⟨cells.toArray⟩ 0).heap.size := by simp [World.iter]
  have hb12 := hb1.trans (hb2.mono hb1.size)
  have hsz := hb1.size
  generalize w1.iter ⟨cells.toArray⟩ 0 = w2 at *
  generalize hII : w1.heap.size = I at *
  have HII := Lib.hid hII
  clear hII hb2
  go_loopw [6] (fun v wr => ∃ k : Nat, k ≤ cells.length ∧ Hid (wr.heap[I]? = some (.stringIter ⟨cells.toArray⟩ k)) ∧ ∃ acc : List Nat, acc.length = k ∧ Owns wr (I + 1) 3 v (nats acc) ∧ Below I w2 wr ∧ Hid (numsM cells W = acc ++ numsGo cells W k (cells.length - k))) (fun _ wr => cells.length - wr.iterPos I)
  case atStart => exact ⟨0, Nat.zero_le _, hI, [], rfl, Owns.nil _ _ _, Below.refl _ _, by rw [Hid, hT.out]; simp⟩
  case round =>
    obtain ⟨k, hk, hIr, acc, hacc, hown, hb, hR⟩ := hrel
    have hIlt := block_lt hIr.out
    have HA := Lib.hid hacc
    have hacc' : acc.length ≤ k := by omega
    clear hacc
    by_cases hlt : k < cells.length
    · have hasc := sign_ascii (hsg _ (List.getElem_mem hlt))
      have hnx := fun ty => Lib.run_next_ascii_at (P := Tryd.prog) wr I ⟨cells.toArray⟩ k ty hIr.out (by simpa [ByteArray.size] using hlt) (by simpa using hasc)
      have hpos := Lib.hid (iterPos_at hIr.out)
      have i1 := iterAt_at hIlt ⟨cells.toArray⟩ (k + 1)
      have i2 := iterAt_below wr I ⟨cells.toArray⟩ (k + 1)
      have i3 := iterAt_size wr I ⟨cells.toArray⟩ (k + 1)
      have i4 := hown.iter I ⟨cells.toArray⟩ (k + 1) (by omega)
      go_wp2_with fail
      clear hnx
      generalize wr.iterAt I ⟨cells.toArray⟩ (k + 1) = wi at *
      refine (boNumber_any W H cells k _ ⟨hw1, hw8⟩ hh8 HL.out hlt).mono ?_
      rintro e w3 ⟨rfl, hb3⟩
      have s3 := hb3.size
      have i5 := Lib.hid ((hb3.block I (by omega)).trans i1)
      clear i1
      go_wp2_with (at_builtin; refine wpList_app1 rfl _ _ _ rfl _ _ _ _ elemInt _ _ _ _ rfl rfl rfl (i4.later hb3) rfl (by simp; omega) (by omega) (by simp; omega) ?_; intro v1 w4 hown1 hb4 hs4)
      rw [nats_snoc] at hown1
      have i6 := (hb4.block I (by omega)).trans i5.out
      have ip := Lib.hid (iterPos_at i6)
      have I6 := Lib.hid i6
      clear i6
      go_roundw
      case rel =>
        first
          | exact ⟨k + 1, by omega, I6, _, by simp [HA.out], hown1, ((hb.trans i2).trans (hb3.mono (by omega))).trans (hb4.mono (by omega)), by rw [Hid, hR.out, show cells.length - k = (cells.length - (k + 1)) + 1 by omega, numsGo]; simp⟩
          | ((repeat apply Exists.intro); exact ⟨⟨k + 1, by omega, I6, _, by simp [HA.out], hown1, ((hb.trans i2).trans (hb3.mono (by omega))).trans (hb4.mono (by omega)), by rw [Hid, hR.out, show cells.length - k = (cells.length - (k + 1)) + 1 by omega, numsGo]; simp⟩, rfl⟩)
      case measure => rw [hpos.out, ip.out]; omega
    · obtain rfl : k = cells.length := by omega
      have hnx := fun ty => Lib.run_next_end_at (P := Tryd.prog) wr I ⟨cells.toArray⟩ cells.length ty hIr.out (by simp [ByteArray.size])
      have hfin : acc = numsM cells W := by rw [hR.out]; simp [numsGo]
      go_wp2_with fail
      go_ret
      rw [hfin] at hown
      obtain ⟨a', cap', hv⟩ := hown.shape
      simp only [nats_length, numsM_length] at hv
      exact ⟨a', cap', by rw [← hv]; rfl, by rw [← hv]; exact hown.mono (by omega), hb12.trans (hb.mono hsz)⟩
end Go.Proofs.YthlbplmghjaeoaaDoor
