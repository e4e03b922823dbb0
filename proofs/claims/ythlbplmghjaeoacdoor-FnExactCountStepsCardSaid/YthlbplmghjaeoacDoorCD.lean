/- Notes: signs put in cells, by the model. -/
import Derived.Test.YthlbplmghjaeoacDoorCB
import Derived.Test.YthlbplmghjaeoacDoorGC6
import Derived.Test.YthlbplmghjaeoacDoorY8
import Derived.Outline
namespace Go.Proofs.YthlbplmghjaeoacDoor
open Go.RowKit

theorem note_ascii {c : UInt8} (h : noteSign c = true) : c.toNat < 128 := by
  have e : ∀ n : UInt8, c = n → n.toNat < 128 → c.toNat < 128 := fun n h1 h2 => by rw [h1]; exact h2
  simp only [noteSign, viewSign, rowSign, digSign, Bool.or_eq_true, beq_iff_eq, Bool.and_eq_true, decide_eq_true_eq] at h
  rcases h with (h | h) | (h | h)
  · exact e 63 h (by decide)
  · omega
  · exact e 46 h (by decide)
  · exact e 42 h (by decide)
/-- The first k cells with a sign put in those of a list. -/
def noteK (cells : List UInt8) (xs : List Nat) (s : UInt8) (k : Nat) : List UInt8 := (List.range k).map fun i => if i ∈ xs then s else cells.getD i 0
theorem noteK_snoc (cells : List UInt8) (xs : List Nat) (s : UInt8) (k : Nat) : noteK cells xs s (k + 1) = noteK cells xs s k ++ [if k ∈ xs then s else cells.getD k 0] := by
  rw [noteK, List.range_succ, List.map_append]; rfl
theorem noteK_length (cells : List UInt8) (xs : List Nat) (s : UInt8) (k : Nat) : (noteK cells xs s k).length = k := by simp [noteK]

set_option maxRecDepth 100000 in
set_option maxHeartbeats 1600000 in
theorem ruNote_any (l : List UInt8) (W H : Nat) (cells : List UInt8) (hB : Grd l W H cells) (hsg : ∀ c ∈ cells, noteSign c = true) (xs : List Nat) (a : Option Addr) (cap : Nat) (s : UInt8) (w : World) (hat : At w a (nats xs)) (hx : xs.length ≤ 1048576) (hl : l.length ≤ 1048576) :
    Calls Tryd.prog 62 #[.string ⟨l.toArray⟩, .slice a xs.length cap, .string ⟨#[s]⟩] w fun e w' => e = .returned (.string ⟨(textM (noteL cells xs s) W H).toArray⟩) ∧ Below w.heap.size w w' := by
  have hz := fun w => boSize_any l w hl
  rw [hB.size] at hz
  have hbc := fun w => boCells_any l w hl
  rw [hB.cs] at hbc
  have h64 := hB.n64
  have hw1 := hB.w1
  have hw8 := hB.w8
  have hbr := fun w => boRows_any (noteL cells xs s) W w (by rw [noteL_length]; exact h64) hw1 (by omega)
  rw [brGo_text W H hw1 _ (by rw [noteL_length]; exact hB.len)] at hbr
  have HBR := Lib.hid hbr
  have hnk : Hid (noteK cells xs s cells.length = noteL cells xs s) := rfl
  clear hB hbr
  go_enter Tryd.func62, Tryd.ntmps62
  go_wp2_with fail
  refine (hz _).mono ?_
  rintro e w1 ⟨rfl, hb⟩
  go_wp2_with fail
  refine (hbc _).mono ?_
  rintro e w2 ⟨rfl, rfl⟩
  go_wp2_with fail
  have s1 := hb.size
  have hat1 := hat.later rfl hb
  have hI : (w1.iter ⟨cells.toArray⟩ 0).heap[w1.heap.size]? = some (.stringIter ⟨cells.toArray⟩ 0) := World.iter_heap w1 _ _
  have hb2 : Below w1.heap.size w1 (w1.iter ⟨cells.toArray⟩ 0) := (Below.refl _ _).alloc (Nat.le_refl _) _
  have hs2 : w1.heap.size < (w1.iter ⟨cells.toArray⟩ 0).heap.size := by simp [World.iter]
  have hat2 := hat1.later rfl hb2
  generalize w1.iter ⟨cells.toArray⟩ 0 = w2 at *
  generalize hII : w1.heap.size = I at *
  have HII := Lib.hid hII
  have HSI : Hid (w.heap.size ≤ I) := s1
  clear hII
  go_loopw [10] (fun v wr => ∃ k : Nat, k ≤ cells.length ∧ Hid (wr.heap[I]? = some (.stringIter ⟨cells.toArray⟩ k)) ∧ v = .string ⟨(noteK cells xs s k).toArray⟩ ∧ Below I w2 wr) (fun _ wr => cells.length - wr.iterPos I)
  case atStart => exact ⟨0, Nat.zero_le _, hI, rfl, Below.refl _ _⟩
  case round =>
    obtain ⟨k, hk, hIr, rfl, hb3⟩ := hrel
    have hIlt := block_lt hIr.out
    by_cases hlt : k < cells.length
    · have hasc := note_ascii (hsg _ (List.getElem_mem hlt))
      have hnx := fun ty => Lib.run_next_ascii_at (P := Tryd.prog) wr I ⟨cells.toArray⟩ k ty hIr.out (by simpa [ByteArray.size] using hlt) (by simpa using hasc)
      have hpos := Lib.hid (iterPos_at hIr.out)
      have i1 := iterAt_at hIlt ⟨cells.toArray⟩ (k + 1)
      have i2 := iterAt_below wr I ⟨cells.toArray⟩ (k + 1)
      have i3 := iterAt_size wr I ⟨cells.toArray⟩ (k + 1)
      have hsn := Lib.hid (noteK_snoc cells xs s k)
      have hacc : (noteK cells xs s k).length = k := noteK_length _ _ _ _
      have hgd : cells.getD k 0 = cells[k] := by simp [List.getD, hlt]
      have hat3 : At (wr.iterAt I ⟨cells.toArray⟩ (k + 1)) a (nats xs) := by
        have hq := hat2
        exact At.below (w0 := w1) hat2 hat1 (B := I) (by rw [HII.out]; exact Nat.le_refl _) (hb3.trans i2)
      have hln : cells.length ≤ 64 := h64
      have hd1 : (cells.drop k).take 1 = [cells[k]] := by rw [List.drop_eq_getElem_cons hlt]; rfl
      have HD1 := Lib.hid hd1
      clear hasc hd1
      generalize noteK cells xs s k = acc at *
      by_cases hin : k ∈ xs
      · have hp := Lib.hid (show (if k ∈ xs then s else cells.getD k 0) = s by rw [if_pos hin])
        have hlh := Lib.hid (l1HasN_any xs k a cap _ hat3 hx)
        rw [show decide (k ∈ xs) = true by simpa using hin] at hlh
        clear hin hat3
        go_wp2_with fail
        clear hnx
        generalize wr.iterAt I ⟨cells.toArray⟩ (k + 1) = wi at *
        refine hlh.out.mono ?_
        rintro e w5 ⟨rfl, rfl⟩
        have ip := Lib.hid (iterPos_at i1)
        have I1 := Lib.hid i1
        clear i1
        go_wp2_with fail
        go_roundw
        case rel => exact ⟨k + 1, by omega, I1, by rw [hsn.out, hp.out], hb3.trans i2⟩
        case measure => rw [hpos.out, ip.out]; omega
      · have hp := Lib.hid (show (if k ∈ xs then s else cells.getD k 0) = cells[k] by rw [if_neg hin, hgd])
        have hlh := Lib.hid (l1HasN_any xs k a cap _ hat3 hx)
        rw [show decide (k ∈ xs) = false by simpa using hin] at hlh
        clear hin hat3
        go_wp2_with fail
        clear hnx
        generalize wr.iterAt I ⟨cells.toArray⟩ (k + 1) = wi at *
        refine hlh.out.mono ?_
        rintro e w5 ⟨rfl, rfl⟩
        have ip := Lib.hid (iterPos_at i1)
        have I1 := Lib.hid i1
        clear i1
        go_wp2_with fail
        go_roundw
        case rel => exact ⟨k + 1, by omega, I1, by rw [hsn.out, hp.out, HD1.out], hb3.trans i2⟩
        case measure => rw [hpos.out, ip.out]; omega
    · obtain rfl : k = cells.length := by omega
      have hnx := fun ty => Lib.run_next_end_at (P := Tryd.prog) wr I ⟨cells.toArray⟩ cells.length ty hIr.out (by simp [ByteArray.size])
      rw [hnk.out]
      go_wp2_with fail
      refine (HBR.out _).mono ?_
      rintro e w5 ⟨rfl, rfl⟩
      go_wp2_with fail
      go_ret
      exact ⟨rfl, hb.trans ((hb2.trans hb3).mono HSI.out)⟩
end Go.Proofs.YthlbplmghjaeoacDoor
