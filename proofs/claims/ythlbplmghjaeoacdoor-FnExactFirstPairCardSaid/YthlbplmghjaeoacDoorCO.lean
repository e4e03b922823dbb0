/- Notes: the first single cell that finds something, by the model. -/
import Derived.Test.YthlbplmghjaeoacDoorCN
import Derived.Outline
namespace Go.Proofs.YthlbplmghjaeoacDoor
open Go.RowKit

/-- The open cells from a number on. -/
def opR (cells : List UInt8) (k : Nat) : List Nat := (List.range' k (cells.length - k)).filter (opB cells)
theorem opR_yes {cells : List UInt8} {k : Nat} (hk : k < cells.length) (h : opB cells k = true) : opR cells k = k :: opR cells (k + 1) := by
  rw [opR, show cells.length - k = (cells.length - (k + 1)) + 1 by omega, List.range'_succ, List.filter_cons, if_pos h, opR]
theorem opR_no {cells : List UInt8} {k : Nat} (hk : k < cells.length) (h : opB cells k = false) : opR cells k = opR cells (k + 1) := by
  rw [opR, show cells.length - k = (cells.length - (k + 1)) + 1 by omega, List.range'_succ, List.filter_cons, if_neg (by rw [h]; decide), opR]
theorem opR_zero (cells : List UInt8) : opR cells 0 = opens cells := by rw [opR, opens, List.range_eq_range', Nat.sub_zero]
theorem opR_end (cells : List UInt8) : opR cells cells.length = [] := by rw [opR, Nat.sub_self]; rfl
theorem fst_fnd (cells : List UInt8) (W : Nat) (na : List Nat) (ra : Int) : ∀ ks : List Nat, fnd (fstM cells W na ra ks).2 = false → (fstM cells W na ra ks).1 = 0
  | [], _ => rfl
  | k :: r, h => by
    unfold fstM at h ⊢
    by_cases hf : fnd (pairAt cells W na ra k) = true
    · rw [if_pos hf] at h; rw [hf] at h; cases h
    · rw [if_neg hf] at h ⊢
      exact fst_fnd cells W na ra r h
theorem pairAt_sing (cells : List UInt8) (W k : Nat) : pairAt cells W [] 0 k = singL (nrS cells W k 63) (restM cells W k) := by
  rw [pairAt, pair_sing, Int.sub_zero]
theorem fnd_len (p : List Nat × List Nat) : fnd p = decide ((p.1.length : Int) + (p.2.length : Int) > 0) := by
  obtain ⟨a, b⟩ := p
  cases a <;> cases b <;> simp [fnd] <;> omega

set_option maxRecDepth 100000 in
set_option maxHeartbeats 3200000 in
theorem ruFirst_single (l : List UInt8) (W H : Nat) (cells : List UInt8) (hB : Grd l W H cells) (hsg : ∀ c ∈ cells, noteSign c = true) (w : World) (hl : l.length ≤ 1048576) :
    Calls Tryd.prog 33 #[.string ⟨l.toArray⟩, .bool false] w fun e w' => e = .returned (.tuple #[.int .i64 ((fstM cells W [] 0 (opens cells)).1 : Nat), .int .i64 ((fstM cells W [] 0 (opens cells)).1 : Nat), .bool (fnd (fstM cells W [] 0 (opens cells)).2)]) ∧ Below w.heap.size w w' := by
  have hbc := fun w => boCells_any l w hl
  rw [hB.cs] at hbc
  have h64 := hB.n64
  have HSI := Lib.hid (fun k hk ho w => ruSingle_any l W H cells hB k hk ho w hl)
  rw [← opR_zero]
  clear hB
  go_enter Tryd.func33, Tryd.ntmps33
  go_wp2_with fail
  refine (hbc _).mono ?_
  rintro e w1 ⟨rfl, rfl⟩
  go_wp2_with fail
  have hI : (w.iter ⟨cells.toArray⟩ 0).heap[w.heap.size]? = some (.stringIter ⟨cells.toArray⟩ 0) := World.iter_heap w _ _
  have hbi : Below w.heap.size w (w.iter ⟨cells.toArray⟩ 0) := (Below.refl _ _).alloc (Nat.le_refl _) _
  have hsi : w.heap.size < (w.iter ⟨cells.toArray⟩ 0).heap.size := by simp [World.iter]
  generalize w.iter ⟨cells.toArray⟩ 0 = w4 at *
  generalize hII : w.heap.size = I at *
  have HII := Lib.hid hII
  clear hII hbc
  go_loopw [] (fun wr => ∃ k : Nat, k ≤ cells.length ∧ Hid (wr.heap[I]? = some (.stringIter ⟨cells.toArray⟩ k)) ∧ Hid (fstM cells W [] 0 (opR cells 0) = fstM cells W [] 0 (opR cells k)) ∧ Below I w4 wr) (fun wr => cells.length - wr.iterPos I)
  case atStart => exact ⟨0, Nat.zero_le _, hI, rfl, Below.refl _ _⟩
  case round =>
    obtain ⟨k, hk, hIr, hR, hb⟩ := hrel
    have hIlt := block_lt hIr.out
    by_cases hlt : k < cells.length
    · have hasc := note_ascii (hsg _ (List.getElem_mem hlt))
      have hnx := fun ty => Lib.run_next_ascii_at (P := Tryd.prog) wr I ⟨cells.toArray⟩ k ty hIr.out (by simpa [ByteArray.size] using hlt) (by simpa using hasc)
      have hpos := Lib.hid (iterPos_at hIr.out)
      have i1 := iterAt_at hIlt ⟨cells.toArray⟩ (k + 1)
      have i2 := iterAt_below wr I ⟨cells.toArray⟩ (k + 1)
      have hgd : cells.getD k 0 = cells[k] := by simp [List.getD, hlt]
      have hro := fun w => ruOpen_any cells[k] w
      have hop : opB cells k = digSign cells[k] := by rw [opB, hgd]
      rw [← hop] at hro
      clear hasc hgd hop
      cases ho : opB cells k with
      | false =>
        have HST := Lib.hid (opR_no hlt ho)
        rw [ho] at hro
        have HRO := Lib.hid hro
        clear ho hro
        go_wp2_with fail
        clear hnx
        generalize wr.iterAt I ⟨cells.toArray⟩ (k + 1) = wi at *
        refine (HRO.out _).mono ?_
        rintro e w5 ⟨rfl, rfl⟩
        have ip := Lib.hid (iterPos_at i1)
        have I1 := Lib.hid i1
        clear i1
        go_wp2_with fail
        go_roundw
        case rel => exact ⟨k + 1, by omega, I1, by rw [Hid, hR.out, HST.out], hb.trans i2⟩
        case measure => rw [hpos.out, ip.out]; omega
      | true =>
        have HST : Hid (fstM cells W [] 0 (opR cells k) = if fnd (pairAt cells W [] 0 k) = true then (k, pairAt cells W [] 0 k) else fstM cells W [] 0 (opR cells (k + 1))) := by rw [Hid, opR_yes hlt ho, fstM]
        have HSK := Lib.hid (HSI.out k hlt ho)
        rw [← pairAt_sing] at HSK
        rw [ho] at hro
        have HRO := Lib.hid hro
        have hfl := fnd_len (pairAt cells W [] 0 k)
        have hcl := pairL_cel (na := []) (restM cells W k - 0) (Cel.near cells W k 63)
        have hl1 : (pairAt cells W [] 0 k).1.length ≤ cells.length := hcl.1.len
        have hl2 : (pairAt cells W [] 0 k).2.length ≤ cells.length := hcl.2.len
        clear ho hro hcl
        generalize pairAt cells W [] 0 k = P at *
        go_wp2_with fail
        clear hnx
        generalize wr.iterAt I ⟨cells.toArray⟩ (k + 1) = wi at *
        refine (HRO.out _).mono ?_
        rintro e w5 ⟨rfl, rfl⟩
        have HB2 := Lib.hid (hb.trans i2)
        go_wp2_with fail
        refine (HSK.out _).mono ?_
        rintro e w6 ⟨a1, c1, a2, c2, rfl, _, _, hb6⟩
        have s6 := hb6.size
        have hs2 := HB2.out.size
        have i5 := (hb6.block I (by have := block_lt i1; omega)).trans i1
        have ip := Lib.hid (iterPos_at i5)
        have I5 := Lib.hid i5
        have HB6 := Lib.hid (HB2.out.trans (hb6.mono (by have := block_lt i1; omega)))
        clear i5 hb6 i1
        cases hf : fnd P with
        | true =>
          rw [hf] at hfl HST
          have HFIN : Hid (fstM cells W [] 0 (opR cells 0) = (k, P)) := by rw [Hid, hR.out, HST.out]; rfl
          have HFP := Lib.hid hf
          have hd : decide ((P.1.length : Int) + (P.2.length : Int) > 0) = true := hfl.symm
          clear hfl hf
          go_wp2_with fail
          go_ret3
          exact ⟨by rw [HFIN.out, HFP.out]; rfl, by rw [HII.out]; exact hbi.trans HB6.out⟩
        | false =>
          rw [hf] at hfl HST
          have HN : Hid (fstM cells W [] 0 (opR cells 0) = fstM cells W [] 0 (opR cells (k + 1))) := by rw [Hid, hR.out, HST.out]; rfl
          have hd : decide ((P.1.length : Int) + (P.2.length : Int) > 0) = false := hfl.symm
          clear hfl hf
          go_wp2_with fail
          go_roundw
          case rel => exact ⟨k + 1, by omega, I5, HN.out, HB6.out⟩
          case measure => rw [hpos.out, ip.out]; omega
    · obtain rfl : k = cells.length := by omega
      have hnx := fun ty => Lib.run_next_end_at (P := Tryd.prog) wr I ⟨cells.toArray⟩ cells.length ty hIr.out (by simp [ByteArray.size])
      have HFIN : Hid (fstM cells W [] 0 (opR cells 0) = (0, ([], []))) := by rw [Hid, hR.out, opR_end]; rfl
      go_wp2_with fail
      go_ret3
      exact ⟨by rw [HFIN.out]; rfl, by rw [HII.out]; exact hbi.trans hb⟩
end Go.Proofs.YthlbplmghjaeoacDoor
