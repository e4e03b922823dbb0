/- Notes: whether they are sound, by the model; IsSound both ways. -/
import Derived.Test.YthlbplmghjaeoacDoorGCG
import Derived.Test.YthlbplmghjaeoacDoorCD
import Derived.Outline
namespace Go.Proofs.YthlbplmghjaeoacDoor
open Go.RowKit

theorem sound_step {cells : List UInt8} {W k : Nat} (hk : k < cells.length) : (List.range' k (cells.length - k)).all (fun k => !opB cells k || okR cells W k) = ((!opB cells k || okR cells W k) && (List.range' (k + 1) (cells.length - (k + 1))).all (fun k => !opB cells k || okR cells W k)) := by
  rw [show cells.length - k = (cells.length - (k + 1)) + 1 by omega, List.range'_succ, List.all_cons]
theorem sound_all (cells : List UInt8) (W : Nat) : soundM cells W = (List.range' 0 (cells.length - 0)).all (fun k => !opB cells k || okR cells W k) := by
  rw [soundM, List.range_eq_range', Nat.sub_zero]

set_option maxRecDepth 100000 in
set_option maxHeartbeats 3200000 in
theorem ruSound_any (l : List UInt8) (W H : Nat) (cells : List UInt8) (hB : Grd l W H cells) (hsg : ∀ c ∈ cells, noteSign c = true) (w : World) (hl : l.length ≤ 1048576) :
    Calls Tryd.prog 32 #[.string ⟨l.toArray⟩] w fun e w' => e = .returned (.bool (soundM cells W)) ∧ Below w.heap.size w w' := by
  have HSA := Lib.hid (sound_all cells W)
  have hbc := fun w => boCells_any l w hl
  rw [hB.cs] at hbc
  have h64 := hB.n64
  have HRR := Lib.hid (fun k hk ho w => ruRest_any l W H cells hB k hk ho w hl)
  have HNR := Lib.hid (fun k hk w => ruNear_any l W H cells hB k hk 63 63 rfl w hl)
  clear hB
  go_enter Tryd.func32, Tryd.ntmps32
  go_wp2_with fail
  refine (hbc _).mono ?_
  rintro e w1 ⟨rfl, rfl⟩
  go_wp2_with fail
  have hI : (w.iter ⟨cells.toArray⟩ 0).heap[w.heap.size]? = some (.stringIter ⟨cells.toArray⟩ 0) := World.iter_heap w _ _
  have hbi : Below w.heap.size w (w.iter ⟨cells.toArray⟩ 0) := (Below.refl _ _).alloc (Nat.le_refl _) _
  have hsi : w.heap.size < (w.iter ⟨cells.toArray⟩ 0).heap.size := by simp [World.iter]
  generalize w.iter ⟨cells.toArray⟩ 0 = w4 at *
  generalize hII : w.heap.size = I at *
  have HII := Lib.hid hII
  clear hII hbc
  go_loopw [] (fun wr => ∃ k : Nat, k ≤ cells.length ∧ Hid (wr.heap[I]? = some (.stringIter ⟨cells.toArray⟩ k)) ∧ Hid (soundM cells W = (List.range' k (cells.length - k)).all (fun k => !opB cells k || okR cells W k)) ∧ Below I w4 wr) (fun wr => cells.length - wr.iterPos I)
  case atStart => exact ⟨0, Nat.zero_le _, hI, HSA.out, Below.refl _ _⟩
  case round =>
    obtain ⟨k, hk, hIr, hR, hb⟩ := hrel
    have hIlt := block_lt hIr.out
    by_cases hlt : k < cells.length
    · have HST := Lib.hid (sound_step (W := W) hlt)
      have hasc := note_ascii (hsg _ (List.getElem_mem hlt))
      have hnx := fun ty => Lib.run_next_ascii_at (P := Tryd.prog) wr I ⟨cells.toArray⟩ k ty hIr.out (by simpa [ByteArray.size] using hlt) (by simpa using hasc)
      have hpos := Lib.hid (iterPos_at hIr.out)
      have i1 := iterAt_at hIlt ⟨cells.toArray⟩ (k + 1)
      have i2 := iterAt_below wr I ⟨cells.toArray⟩ (k + 1)
      have hgd : cells.getD k 0 = cells[k] := by simp [List.getD, hlt]
      have hro := fun w => ruOpen_any cells[k] w
      have hop : opB cells k = digSign cells[k] := by rw [opB, hgd]
      rw [← hop] at hro
      clear hasc hgd hop
      cases ho : opB cells k with
      | false =>
        rw [ho] at HST hro
        have HRO := Lib.hid hro
        clear ho hro
        go_wp2_with fail
        clear hnx
        generalize wr.iterAt I ⟨cells.toArray⟩ (k + 1) = wi at *
        refine (HRO.out _).mono ?_
        rintro e w5 ⟨rfl, rfl⟩
        have ip := Lib.hid (iterPos_at i1)
        have I1 := Lib.hid i1
        clear i1
        go_wp2_with fail
        go_roundw
        case rel => exact ⟨k + 1, by omega, I1, by rw [Hid, hR.out, HST.out]; rfl, hb.trans i2⟩
        case measure => rw [hpos.out, ip.out]; omega
      | true =>
        have HRK := Lib.hid (HRR.out k hlt ho)
        have HNK := Lib.hid (HNR.out k hlt)
        rw [ho] at HST hro
        have HRO := Lib.hid hro
        obtain ⟨hr1, hr2⟩ := rest_range cells W k h64
        have hnl := nrS_le cells W k 63
        have HOK : Hid (okR cells W k = inB (restM cells W k) 0 ((nrS cells W k 63).length : Int)) := rfl
        clear ho hro
        generalize restM cells W k = rk at *
        generalize nrS cells W k 63 = nk at *
        have hin := fun w => l1In_any rk 0 (nk.length : Int) w
        rw [← HOK.out] at hin
        go_wp2_with fail
        clear hnx
        generalize wr.iterAt I ⟨cells.toArray⟩ (k + 1) = wi at *
        refine (HRO.out _).mono ?_
        rintro e w5 ⟨rfl, rfl⟩
        have s1 := (hb.trans i2).size
        have HB2 := Lib.hid (hb.trans i2)
        go_wp2_with fail
        refine (HRK.out _).mono ?_
        rintro e w5 ⟨rfl, hb5⟩
        have s5 := hb5.size
        go_wp2_with fail
        refine (HNK.out _).mono ?_
        rintro e w6 ⟨a6, c6, rfl, hown, hb6⟩
        have hb56 := hb5.trans (hb6.mono s5)
        have i5 := (hb56.block I (by have := block_lt i1; omega)).trans i1
        have ip := Lib.hid (iterPos_at i5)
        have I5 := Lib.hid i5
        have HB6 := Lib.hid (HB2.out.trans (hb56.mono (by have := block_lt i1; omega)))
        clear i5 hb5 hb6 hb56 hown i1
        cases hok : okR cells W k with
        | true =>
          rw [hok] at HST hin
          have HIN := Lib.hid hin
          clear hok hin
          go_wp2_with fail
          refine (HIN.out _).mono ?_
          rintro e w7 ⟨rfl, rfl⟩
          go_wp2_with fail
          go_roundw
          case rel => exact ⟨k + 1, by omega, I5, by rw [Hid, hR.out, HST.out]; rfl, HB6.out⟩
          case measure => rw [hpos.out, ip.out]; omega
        | false =>
          rw [hok] at HST hin
          have HIN := Lib.hid hin
          clear hok hin
          go_wp2_with fail
          refine (HIN.out _).mono ?_
          rintro e w7 ⟨rfl, rfl⟩
          go_wp2_with fail
          go_ret
          exact ⟨by rw [hR.out, HST.out]; rfl, by rw [HII.out]; exact hbi.trans HB6.out⟩
    · obtain rfl : k = cells.length := by omega
      have hnx := fun ty => Lib.run_next_end_at (P := Tryd.prog) wr I ⟨cells.toArray⟩ cells.length ty hIr.out (by simp [ByteArray.size])
      go_wp2_with fail
      go_ret
      exact ⟨by rw [hR.out, Nat.sub_self]; rfl, by rw [HII.out]; exact hbi.trans hb⟩

/-- What IsSound hands back. -/
def isB (l : List UInt8) : Bool := gridM noteSign l && soundM (grC noteSign l) (grW noteSign l)


end Go.Proofs.YthlbplmghjaeoacDoor
