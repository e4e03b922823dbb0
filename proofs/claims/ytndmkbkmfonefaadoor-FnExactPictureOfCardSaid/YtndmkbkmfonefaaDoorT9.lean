/- Walks: the picture of a board: the model of it, the model's own walk. -/
import Derived.Test.YtndmkbkmfonefaaDoorT7
import Derived.Test.YtndmkbkmfonefaaDoorN5
import Derived.Test.YtndmkbkmfonefaaDoorE
import Derived.Outline
namespace Go.Proofs.YtndmkbkmfonefaaDoor
open Go.RowKit

theorem nearM_nine (W H c : Nat) (hW : W ≤ 8) (hH : H ≤ 8) (hc : c < W * H) : (nearM W (W * H) c).length ≤ 9 := by
  have h1 := congrArg List.length (near_eq W H c hW hH hc)
  have h2 := boNearM_le W H c
  simp only [List.length_map] at h1
  omega
theorem numM_nine (cells : List UInt8) (W H c : Nat) (hW : W ≤ 8) (hH : H ≤ 8) (hn : cells.length = W * H) (hc : c < cells.length) : numM cells W c ≤ 9 := by
  have h1 := countAt_le cells (nearM W cells.length c)
  have h2 := nearM_nine W H c hW hH (by omega)
  unfold numM
  rw [hn] at h1 ⊢
  omega

theorem nearJ_all : ∀ W, W < 9 → ∀ H, H < 9 → ∀ c, c < W * H → (nearM (.around W H) (W * H) c).length ≤ 9 := by decide +kernel
theorem numJ_nine (J : Bool) (cells : List UInt8) (W H c : Nat) (hW : W ≤ 8) (hH : H ≤ 8) (hn : cells.length = W * H) (hc : c < cells.length) : numM cells (geoOf J W H) c ≤ 9 := by
  cases J with
  | false => exact numM_nine cells W H c hW hH hn hc
  | true =>
    have h1 := countAt_le cells (nearM (.around W H) cells.length c)
    have h2 := nearJ_all W (by omega) H (by omega) c (by omega)
    show countAt cells (nearM (.around W H) cells.length c) ≤ 9
    rw [hn] at h1 ⊢
    omega

/-- The sign of a cell in a picture. -/
def picB (cells : List UInt8) (W : Geo) (k : Nat) : UInt8 := if cells.getD k 0 = 42 then 42 else digB (numM cells W k)
def picGo (cells : List UInt8) (W : Geo) (k : Nat) : Nat → List UInt8
  | 0 => []
  | m + 1 => picB cells W k :: picGo cells W (k + 1) m
@[simp] theorem picGo_length (cells : List UInt8) (W : Geo) : ∀ (m k : Nat), (picGo cells W k m).length = m
  | 0, _ => rfl
  | m + 1, k => by rw [picGo, List.length_cons, picGo_length cells W m]
theorem picGo_snoc (cells : List UInt8) (W : Geo) : ∀ (m k : Nat), picGo cells W k (m + 1) = picGo cells W k m ++ [picB cells W (k + m)]
  | 0, k => rfl
  | m + 1, k => by
    rw [picGo, picGo_snoc cells W m (k + 1), picGo]
    simp only [List.cons_append]
    rw [show k + 1 + m = k + (m + 1) by omega]
theorem picGo_get (cells : List UInt8) (W : Geo) : ∀ (m k j : Nat) (h : j < (picGo cells W k m).length), (picGo cells W k m)[j] = picB cells W (k + j)
  | 0, _, _, h => by simp [picGo] at h
  | m + 1, k, 0, _ => rfl
  | m + 1, k, j + 1, h => by
    simp only [picGo, List.getElem_cons_succ]
    rw [picGo_get cells W m (k + 1) j]
    congr 1
    omega

set_option maxRecDepth 100000 in
set_option maxHeartbeats 800000 in
theorem l1Num_any (n : Nat) (w : World) (hn : n ≤ 9) :
    Calls Tryd.prog 65 #[.int .i64 n] w fun e w' => e = .returned (.string ⟨[digB n].toArray⟩) ∧ Below w.heap.size w w' := by
  have hd := digB_nat n hn
  have hcv := run_convert_bytes_back (P := Tryd.prog) (w.alloc (.cells #[.int .u8 (48 + (n : Int))] 5)) 38 9 5 ⟨w.heap.size, 0, none⟩ 1 [digB n] Tryd.underlying38 Tryd.underlying5 Tryd.underlying9 (fun j hj => by
    obtain rfl : j = 0 := by simp at hj; omega
    refine cell_one_new _ _ _ 0 _ ?_
    simp [hd])
  simp only [List.length_cons, List.length_nil, Nat.zero_add] at hcv
  go_enter Tryd.func65, Tryd.ntmps65
  go_wp2_with fail
  go_ret
  exact ⟨rfl, (Below.refl _ _).alloc (Nat.le_refl _) _⟩

set_option maxRecDepth 100000 in
set_option maxHeartbeats 1600000 in
theorem boPicture_any (W H : Nat) (cells : List UInt8) (w : World) (hW : 1 ≤ W ∧ W ≤ 8) (hH : H ≤ 8) (hn : cells.length = W * H) (hsg : ∀ c ∈ cells, c = 46 ∨ c = 42) :
    Calls Tryd.prog 51 #[.string ⟨cells.toArray⟩, .int .i64 W] w fun e w' => e = .returned (.string ⟨(picGo cells W 0 cells.length).toArray⟩) ∧ Below w.heap.size w w' := by
  have hn64 : cells.length ≤ 64 := by rw [hn]; exact Nat.mul_le_mul hW.2 hH
  have HL := Lib.hid hn
  obtain ⟨hw1, hw8⟩ := hW
  clear hn
  go_enter Tryd.func51, Tryd.ntmps51
  go_wp2_with fail
  have hI : (w.iter ⟨cells.toArray⟩ 0).heap[w.heap.size]? = some (.stringIter ⟨cells.toArray⟩ 0) := World.iter_heap w _ _
  have hb2 : Below w.heap.size w (w.iter ⟨cells.toArray⟩ 0) := (Below.refl _ _).alloc (Nat.le_refl _) _
  have hs2 : w.heap.size < (w.iter ⟨cells.toArray⟩ 0).heap.size := by simp [World.iter]
  generalize w.iter ⟨cells.toArray⟩ 0 = w2 at *
  generalize hII : w.heap.size = I at *
  have HII := Lib.hid hII
  clear hII
  go_loopw [5] (fun v wr => ∃ k : Nat, k ≤ cells.length ∧ Hid (wr.heap[I]? = some (.stringIter ⟨cells.toArray⟩ k)) ∧ v = .string ⟨(picGo cells W 0 k).toArray⟩ ∧ Below I w2 wr) (fun _ wr => cells.length - wr.iterPos I)
  case atStart => exact ⟨0, Nat.zero_le _, hI, rfl, Below.refl _ _⟩
  case round =>
    obtain ⟨k, hk, hIr, rfl, hb⟩ := hrel
    have hIlt := block_lt hIr.out
    by_cases hlt : k < cells.length
    · have hasc := sign_ascii (hsg _ (List.getElem_mem hlt))
      have hnx := fun ty => Lib.run_next_ascii_at (P := Tryd.prog) wr I ⟨cells.toArray⟩ k ty hIr.out (by simpa [ByteArray.size] using hlt) (by simpa using hasc)
      have hpos := Lib.hid (iterPos_at hIr.out)
      have i1 := iterAt_at hIlt ⟨cells.toArray⟩ (k + 1)
      have i2 := iterAt_below wr I ⟨cells.toArray⟩ (k + 1)
      have i3 := iterAt_size wr I ⟨cells.toArray⟩ (k + 1)
      have hsn := Lib.hid (picGo_snoc cells W k 0)
      have hacc : (picGo cells W 0 k).length = k := picGo_length _ _ _ _
      have hgd : Hid (cells.getD k 0 = cells[k]) := by simp [Hid, List.getD, hlt]
      generalize picGo cells W 0 k = acc at *
      by_cases h42 : cells[k] = 42
      · have hd : ((cells[k].toNat : Int) == 42) = true := by rw [is42]; simp [h42]
        have hp := Lib.hid (show picB cells W (0 + k) = 42 by rw [Nat.zero_add, picB, if_pos (by rw [hgd.out, h42])])
        clear h42 hasc
        go_wp2_with fail
        clear hnx
        generalize wr.iterAt I ⟨cells.toArray⟩ (k + 1) = wi at *
        have ip := Lib.hid (iterPos_at i1)
        have I1 := Lib.hid i1
        clear i1
        go_roundw
        case rel => exact ⟨k + 1, by omega, I1, by rw [hsn.out, hp.out], hb.trans i2⟩
        case measure => rw [hpos.out, ip.out]; omega
      · have hd : ((cells[k].toNat : Int) == 42) = false := by rw [is42]; simp [h42]
        have hp := Lib.hid (show picB cells W (0 + k) = digB (numM cells W k) by rw [Nat.zero_add, picB, if_neg (by rw [hgd.out]; exact h42)])
        have h9 := numM_nine cells W H k hw8 hH HL.out hlt
        clear h42 hasc
        go_wp2_with fail
        clear hnx
        generalize wr.iterAt I ⟨cells.toArray⟩ (k + 1) = wi at *
        refine (boNumber_any W H cells k _ ⟨hw1, hw8⟩ hH HL.out hlt).mono ?_
        rintro e w3 ⟨rfl, hb3⟩
        have s3 := hb3.size
        have i5 := Lib.hid ((hb3.block I (by omega)).trans i1)
        clear i1
        go_wp2_with fail
        refine (l1Num_any _ _ h9).mono ?_
        rintro e w4 ⟨rfl, hb4⟩
        have i6 := (hb4.block I (by omega)).trans i5.out
        have ip := Lib.hid (iterPos_at i6)
        have I6 := Lib.hid i6
        clear i6
        go_wp2_with fail
        go_roundw
        case rel => exact ⟨k + 1, by omega, I6, by rw [hsn.out, hp.out], ((hb.trans i2).trans (hb3.mono (by omega))).trans (hb4.mono (by omega))⟩
        case measure => rw [hpos.out, ip.out]; omega
    · obtain rfl : k = cells.length := by omega
      have hnx := fun ty => Lib.run_next_end_at (P := Tryd.prog) wr I ⟨cells.toArray⟩ cells.length ty hIr.out (by simp [ByteArray.size])
      go_wp2_with fail
      go_ret
      exact ⟨rfl, by rw [HII.out]; exact hb2.trans hb⟩
end Go.Proofs.YtndmkbkmfonefaaDoor
