/- Opening: the zeros of a board, by the model. -/
import Derived.Test.YtndmkbkmfonefacDoorYB
import Derived.Outline
namespace Go.Proofs.YtndmkbkmfonefacDoor
open Go.RowKit

set_option maxRecDepth 100000 in
set_option maxHeartbeats 1600000 in
theorem opZeros_any (l : List UInt8) (W H : Nat) (cells : List UInt8) (w : World) (hl : l.length ≤ 1048576) (hB : Brd l W H cells) :
    Calls Tryd.prog 43 #[.string ⟨l.toArray⟩] w fun e w' => ∃ a cap, e = .returned (.slice a (zGo cells W 46 0 cells.length).length cap) ∧ Owns w' w.heap.size 3 (.slice a (zGo cells W 46 0 cells.length).length cap) (nats (zGo cells W 46 0 cells.length)) ∧ Below w.heap.size w w' := by
  have hn64 := hB.n64
  have HS := Lib.hid hB.size
  have HC := Lib.hid hB.cs
  have HL := Lib.hid hB.len
  have hsg := hB.sign
  have hw1 := hB.w1
  have hw8 := hB.w8
  have hh8 := hB.h8
  clear hB
  go_enter Tryd.func43, Tryd.ntmps43
  go_wp2_with fail
  refine (boSize_any l _ hl).mono ?_
  rintro e w1 ⟨rfl, hb1⟩
  rw [HS.out]
  go_wp2_with fail
  refine (boCells_any l _ hl).mono ?_
  rintro e w1' ⟨rfl, rfl⟩
  rw [HC.out]
  go_wp2_with fail
  have hI : (w1.iter ⟨cells.toArray⟩ 0).heap[w1.heap.size]? = some (.stringIter ⟨cells.toArray⟩ 0) := World.iter_heap w1 _ _
  have hb2 : Below w1.heap.size w1 (w1.iter ⟨cells.toArray⟩ 0) := (Below.refl _ _).alloc (Nat.le_refl _) _
  have hs2 : w1.heap.size < (w1.iter ⟨cells.toArray⟩ 0).heap.size := by simp [World.iter]
  have hb12 := hb1.trans (hb2.mono hb1.size)
  have hsz := hb1.size
  generalize w1.iter ⟨cells.toArray⟩ 0 = w2 at *
  generalize hII : w1.heap.size = I at *
  have HII := Lib.hid hII
  clear hII hb2
  go_loopw [6] (fun v wr => ∃ k : Nat, k ≤ cells.length ∧ Hid (wr.heap[I]? = some (.stringIter ⟨cells.toArray⟩ k)) ∧ ∃ acc : List Nat, acc.length ≤ k ∧ Owns wr (I + 1) 3 v (nats acc) ∧ Below I w2 wr ∧ Hid (zGo cells W 46 0 cells.length = acc ++ zGo cells W 46 k (cells.length - k))) (fun _ wr => cells.length - wr.iterPos I)
  case atStart => exact ⟨0, Nat.zero_le _, hI, [], by simp, Owns.nil _ _ _, Below.refl _ _, by simp [Hid]⟩
  case round =>
    obtain ⟨k, hk, hIr, acc, hacc, hown, hb, hR⟩ := hrel
    have hIlt := block_lt hIr.out
    by_cases hlt : k < cells.length
    · have hasc := sign_ascii (hsg _ (List.getElem_mem hlt))
      have hnx := fun ty => Lib.run_next_ascii_at (P := Tryd.prog) wr I ⟨cells.toArray⟩ k ty hIr.out (by simpa [ByteArray.size] using hlt) (by simpa using hasc)
      have hpos := Lib.hid (iterPos_at hIr.out)
      have i1 := iterAt_at hIlt ⟨cells.toArray⟩ (k + 1)
      have i2 := iterAt_below wr I ⟨cells.toArray⟩ (k + 1)
      have i3 := iterAt_size wr I ⟨cells.toArray⟩ (k + 1)
      have i4 := hown.iter I ⟨cells.toArray⟩ (k + 1) (by omega)
      have hgd : Hid (cells.getD k 0 = cells[k]) := by simp [Hid, List.getD, hlt]
      have hst : Hid (zGo cells W 46 k (cells.length - k) = if cells[k] = 46 ∧ numM cells W k = 0 then k :: zGo cells W 46 (k + 1) (cells.length - (k + 1)) else zGo cells W 46 (k + 1) (cells.length - (k + 1))) := by
        rw [Hid, show cells.length - k = (cells.length - (k + 1)) + 1 by omega, zGo, hgd.out]
      have q := byte_beq cells[k] 46 (by omega)
      by_cases h46 : cells[k] = 46
      · have hd : ((cells[k].toNat : Int) == 46) = true := by rw [show (46 : Int) = ((46 : Nat) : Int) from rfl, q]; simp [h46]
        have H46 := Lib.hid h46
        clear h46 q
        by_cases h0 : numM cells W k = 0
        · have hd0 : ((numM cells W k : Int) == 0) = true := by simp [h0]
          have H0 := Lib.hid h0
          clear h0
          go_wp2_with fail
          clear hnx
          generalize wr.iterAt I ⟨cells.toArray⟩ (k + 1) = wi at *
          refine (boNumber_any W H cells k _ ⟨hw1, hw8⟩ hh8 HL.out hlt).mono ?_
          rintro e w3 ⟨rfl, hb3⟩
          have s3 := hb3.size
          have i5 := Lib.hid ((hb3.block I (by omega)).trans i1)
          clear i1
          go_wp2_with (at_builtin; refine wpList_app1 rfl _ _ _ rfl _ _ _ _ elemInt _ _ _ _ rfl rfl rfl (i4.later hb3) rfl (by simp; omega) (by omega) (by simp; omega) ?_; intro v1 w4 hown1 hb4 hs4)
          rw [nats_snoc] at hown1
          have i6 := (hb4.block I (by omega)).trans i5.out
          have ip := Lib.hid (iterPos_at i6)
          have I6 := Lib.hid i6
          clear i6
          go_roundw
          case rel =>
            first
              | exact ⟨k + 1, by omega, I6, _, by simp; omega, hown1, ((hb.trans i2).trans (hb3.mono (by omega))).trans (hb4.mono (by omega)), by rw [Hid, hR.out, hst.out, if_pos ⟨H46.out, H0.out⟩]; simp⟩
              | ((repeat apply Exists.intro); exact ⟨⟨k + 1, by omega, I6, _, by simp; omega, hown1, ((hb.trans i2).trans (hb3.mono (by omega))).trans (hb4.mono (by omega)), by rw [Hid, hR.out, hst.out, if_pos ⟨H46.out, H0.out⟩]; simp⟩, rfl⟩)
          case measure => rw [hpos.out, ip.out]; omega
        · have hd0 : ((numM cells W k : Int) == 0) = false := by simp [h0]
          have H0 := Lib.hid h0
          clear h0
          go_wp2_with fail
          clear hnx
          generalize wr.iterAt I ⟨cells.toArray⟩ (k + 1) = wi at *
          refine (boNumber_any W H cells k _ ⟨hw1, hw8⟩ hh8 HL.out hlt).mono ?_
          rintro e w3 ⟨rfl, hb3⟩
          have s3 := hb3.size
          have i6 := (hb3.block I (by omega)).trans i1
          have ip := Lib.hid (iterPos_at i6)
          have I6 := Lib.hid i6
          clear i6 i1
          go_wp2_with fail
          go_roundw
          case rel =>
            first
              | exact ⟨k + 1, by omega, I6, acc, by omega, i4.later hb3, ((hb.trans i2).trans (hb3.mono (by omega))), by rw [Hid, hR.out, hst.out, if_neg (fun e => H0.out e.2)]⟩
              | ((repeat apply Exists.intro); exact ⟨⟨k + 1, by omega, I6, acc, by omega, i4.later hb3, ((hb.trans i2).trans (hb3.mono (by omega))), by rw [Hid, hR.out, hst.out, if_neg (fun e => H0.out e.2)]⟩, rfl⟩)
          case measure => rw [hpos.out, ip.out]; omega
      · have hd : ((cells[k].toNat : Int) == 46) = false := by rw [show (46 : Int) = ((46 : Nat) : Int) from rfl, q]; simp [h46]
        have H46 := Lib.hid h46
        clear h46 q
        go_wp2_with fail
        clear hnx
        have ip := Lib.hid (iterPos_at i1)
        have I6 := Lib.hid i1
        clear i1
        generalize wr.iterAt I ⟨cells.toArray⟩ (k + 1) = wi at *
        go_roundw
        case rel =>
          first
            | exact ⟨k + 1, by omega, I6, acc, by omega, i4, hb.trans i2, by rw [Hid, hR.out, hst.out, if_neg (fun e => H46.out e.1)]⟩
            | ((repeat apply Exists.intro); exact ⟨⟨k + 1, by omega, I6, acc, by omega, i4, hb.trans i2, by rw [Hid, hR.out, hst.out, if_neg (fun e => H46.out e.1)]⟩, rfl⟩)
        case measure => rw [hpos.out, ip.out]; omega
    · obtain rfl : k = cells.length := by omega
      have hnx := fun ty => Lib.run_next_end_at (P := Tryd.prog) wr I ⟨cells.toArray⟩ cells.length ty hIr.out (by simp [ByteArray.size])
      have hfin : acc = zGo cells W 46 0 cells.length := by rw [hR.out]; simp [zGo]
      go_wp2_with fail
      go_ret
      rw [hfin] at hown
      obtain ⟨a', cap', hv⟩ := hown.shape
      simp only [nats_length] at hv
      exact ⟨a', cap', by rw [← hv]; rfl, by rw [← hv]; exact hown.mono (by omega), hb12.trans (hb.mono hsz)⟩
end Go.Proofs.YtndmkbkmfonefacDoor
