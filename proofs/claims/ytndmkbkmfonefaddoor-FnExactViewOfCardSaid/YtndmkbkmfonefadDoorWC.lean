/- What is seen behind clicks, by the model. -/
import Derived.Test.YtndmkbkmfonefadDoorWB
import Derived.Outline
namespace Go.Proofs.YtndmkbkmfonefadDoor
open Go.RowKit

theorem see_snoc (cells : List UInt8) (W : Nat) (op : Nat → Bool) (k : Nat) : (List.range (k + 1)).map (seeB cells W op) = (List.range k).map (seeB cells W op) ++ [seeB cells W op k] := by
  rw [List.range_succ, List.map_append]; rfl

set_option maxRecDepth 100000 in
set_option maxHeartbeats 1600000 in
theorem sSeenAfter_any (l : List UInt8) (xs : List Int) (a : Option Addr) (cap : Nat) (w : World) (hl : l.length ≤ 1048576) (hat : At w a (ints xs)) (hx : xs.length ≤ 1048576) :
    Calls Tryd.prog 23 #[.string ⟨l.toArray⟩, .slice a xs.length cap] w fun e w' => e = .returned (.tuple #[.string ⟨(saM l xs).toArray⟩, .bool (clkOK l xs)]) ∧ Below w.heap.size w w' := by
  have hck := fun w h => opClicks_any l xs a cap w hl h hx
  cases hv : clkOK l xs with
  | false =>
    have HO : Hid (saM l xs = []) := by
      have hn : ¬ clkOK l xs = true := by rw [hv]; decide
      rw [Hid, saM, kC, kW, kH, if_neg hn, if_neg hn, if_neg hn]
      rfl
    rw [hv] at hck
    clear hv
    go_enter Tryd.func23, Tryd.ntmps23
    go_wp2_with fail
    refine (hck _ hat).mono ?_
    rintro e w1 ⟨rfl, hb1⟩
    go_wp2_with fail
    go_ret2
    exact ⟨by rw [HO.out]; rfl, hb1⟩
  | true =>
    obtain ⟨hg, h64, _⟩ := clk_yes hv
    obtain ⟨hcs, hcc⟩ := clk_cells hv
    have hB := Brd.of hg
    obtain ⟨g1, g2, g3⟩ := hB.grid
    have HO : Hid (oaOf l xs = aftM (cellsM l) (headLen (splitB 47 l)) (csOf xs)) := by rw [Hid, oaOf, if_pos hv, g1, g3]
    have hrl : (seeM (cellsM l) (headLen (splitB 47 l)) (fun k => decide (k ∈ oaOf l xs))).length = (cellsM l).length := by simp
    have HV : Hid (saM l xs = brGo (headLen (splitB 47 l)) 0 (seeM (cellsM l) (headLen (splitB 47 l)) (fun k => decide (k ∈ oaOf l xs)))) := by
      rw [Hid, saM, kC, kW, kH, if_pos hv, if_pos hv, if_pos hv, g1, g2, g3, brGo_text _ _ hB.w1 _ (by simpa using hB.len)]
    rw [g3] at hcc
    have hn64 := hB.n64
    have hW1 := hB.w1
    have hW8 := hB.w8
    have hH8 := hB.h8
    have HL := Lib.hid hB.len
    have HSZ := Lib.hid hB.size
    have hsg := hB.sign
    have hol : (oaOf l xs).length ≤ 64 := by rw [HO.out, aftM]; exact Nat.le_trans (sortM_le _ _) hn64
    have hcl := fun w => boCells_any l w hl
    rw [hv] at hck
    have hop := fun w h => opAfter_any l _ _ _ (csOf xs) a cap w hl hB h (by simpa using h64) (fun c hc => (hcc c hc).1) (fun c hc => (hcc c hc).2)
    rw [csOf_length, ← hcs] at hop
    rw [← HO.out] at hop
    have HOP := Lib.hid hop
    have HCK := Lib.hid hck
    generalize saM l xs = sa at *
    generalize oaOf l xs = oa at *
    have hsz := fun w => boSize_any l w hl
    rw [HSZ.out] at hsz
    have HSI := Lib.hid hsz
    generalize hWe : headLen (splitB 47 l) = W at *
    generalize (splitB 47 l).length = H at *
    generalize cellsM l = cells at *
    have HRL := Lib.hid hrl
    clear hWe hv hcs hcc hB g1 g2 g3 hop hck hg hrl hsz
    go_enter Tryd.func23, Tryd.ntmps23
    go_wp2_with fail
    refine (HCK.out _ hat).mono ?_
    rintro e w1 ⟨rfl, hb1⟩
    go_wp2_with fail
    refine (HOP.out _ (hat.later rfl hb1)).mono ?_
    rintro e w2 ⟨a1, c1, a2, c2, rfl, ho1, ho2, hb2⟩
    go_wp2_with fail
    refine (HSI.out _).mono ?_
    rintro e w3 ⟨rfl, hb3⟩
    go_wp2_with fail
    refine (hcl _).mono ?_
    rintro e w3' ⟨rfl, rfl⟩
    have hbw : Below w.heap.size w w3 := (hb1.trans (hb2.mono hb1.size)).trans (hb3.mono (by have := hb1.size; have := hb2.size; omega))
    have hat1 := (ho1.later hb3).at
    clear ho1 ho2 hb1 hb2 hb3 hcl
    go_wp2_with fail
    have hI : (w3.iter ⟨cells.toArray⟩ 0).heap[w3.heap.size]? = some (.stringIter ⟨cells.toArray⟩ 0) := World.iter_heap w3 _ _
    have hbi : Below w3.heap.size w3 (w3.iter ⟨cells.toArray⟩ 0) := (Below.refl _ _).alloc (Nat.le_refl _) _
    have hsi : w3.heap.size < (w3.iter ⟨cells.toArray⟩ 0).heap.size := by simp [World.iter]
    have hat2 := hat1.later rfl hbi
    have hbw2 := hbw.trans (hbi.mono hbw.size)
    generalize w3.iter ⟨cells.toArray⟩ 0 = w4 at *
    have hat12 := hat1
    have hws := hbw.size
    generalize hop : (fun k => decide (k ∈ oa)) = op at *
    have HOP2 : Hid (∀ k, decide (k ∈ oa) = op k) := fun k => by rw [← hop]
    clear hop
    go_loopw [11] (fun v wr => ∃ k : Nat, k ≤ cells.length ∧ Hid (wr.heap[w3.heap.size]? = some (.stringIter ⟨cells.toArray⟩ k)) ∧ v = .string ⟨((List.range k).map (seeB cells W op)).toArray⟩ ∧ Below w3.heap.size w4 wr) (fun _ wr => cells.length - wr.iterPos w3.heap.size)
    case atStart => exact ⟨0, Nat.zero_le _, hI, rfl, Below.refl _ _⟩
    case round =>
      obtain ⟨k, hk, hIr, rfl, hb⟩ := hrel
      have hIlt := block_lt hIr.out
      have hatr : At wr a1 (nats oa) := hat2.below hat12 (Nat.le_refl _) hb
      by_cases hlt : k < cells.length
      · have hasc := sign_ascii (hsg _ (List.getElem_mem hlt))
        have hnx := fun ty => Lib.run_next_ascii_at (P := Tryd.prog) wr w3.heap.size ⟨cells.toArray⟩ k ty hIr.out (by simpa [ByteArray.size] using hlt) (by simpa using hasc)
        have hpos := Lib.hid (iterPos_at hIr.out)
        have i1 := iterAt_at hIlt ⟨cells.toArray⟩ (k + 1)
        have i2 := iterAt_below wr w3.heap.size ⟨cells.toArray⟩ (k + 1)
        have i3 := iterAt_size wr w3.heap.size ⟨cells.toArray⟩ (k + 1)
        have hati : At (wr.iterAt w3.heap.size ⟨cells.toArray⟩ (k + 1)) a1 (nats oa) := hatr.below hat12 (Nat.le_refl _) i2
        have hsn := Lib.hid (see_snoc cells W op k)
        have hacc : ((List.range k).map (seeB cells W op)).length = k := by simp
        generalize (List.range k).map (seeB cells W op) = acc at *
        have hh := fun w h => l1HasN_any oa k a1 c1 w h (by omega)
        cases ho : op k with
        | true =>
          rw [HOP2.out k, ho] at hh
          have hp := Lib.hid (show seeB cells W op k = digB (numM cells W k) by rw [seeB, if_pos ho])
          have h9 := numM_nine cells W H k hW8 hH8 HL.out hlt
          have HH := Lib.hid hh
          clear hasc ho hh
          go_wp2_with fail
          clear hnx
          generalize wr.iterAt w3.heap.size ⟨cells.toArray⟩ (k + 1) = wi at *
          refine (HH.out _ hati).mono ?_
          rintro e wi' ⟨rfl, rfl⟩
          go_wp2_with fail
          refine (boNumber_any W H cells k _ ⟨hW1, hW8⟩ hH8 HL.out hlt).mono ?_
          rintro e w5 ⟨rfl, hb5⟩
          have s5 := hb5.size
          have i5 := Lib.hid ((hb5.block w3.heap.size (by omega)).trans i1)
          clear i1
          go_wp2_with fail
          refine (l1Num_any _ _ h9).mono ?_
          rintro e w6 ⟨rfl, hb6⟩
          have i6 := (hb6.block w3.heap.size (by omega)).trans i5.out
          have ip := Lib.hid (iterPos_at i6)
          have I6 := Lib.hid i6
          clear i6
          go_wp2_with fail
          go_roundw
          case rel => exact ⟨k + 1, by omega, I6, by rw [hsn.out, hp.out], ((hb.trans i2).trans (hb5.mono (by omega))).trans (hb6.mono (by omega))⟩
          case measure => rw [hpos.out, ip.out]; omega
        | false =>
          rw [HOP2.out k, ho] at hh
          have hp := Lib.hid (show seeB cells W op k = 63 by rw [seeB, if_neg (by rw [ho]; decide)])
          have HH := Lib.hid hh
          clear hasc ho hh
          go_wp2_with fail
          clear hnx
          generalize wr.iterAt w3.heap.size ⟨cells.toArray⟩ (k + 1) = wi at *
          refine (HH.out _ hati).mono ?_
          rintro e wi' ⟨rfl, rfl⟩
          have ip := Lib.hid (iterPos_at i1)
          have I1 := Lib.hid i1
          clear i1
          go_wp2_with fail
          go_roundw
          case rel => exact ⟨k + 1, by omega, I1, by rw [hsn.out, hp.out], hb.trans i2⟩
          case measure => rw [hpos.out, ip.out]; omega
      · obtain rfl : k = cells.length := by omega
        have hnx := fun ty => Lib.run_next_end_at (P := Tryd.prog) wr w3.heap.size ⟨cells.toArray⟩ cells.length ty hIr.out (by simp [ByteArray.size])
        have hbr := boRows_any (seeM cells W op) W wr (by rw [HRL.out]; exact hn64) hW1 (by omega)
        have HBR := Lib.hid hbr
        have HSM : Hid ((List.range cells.length).map (seeB cells W op) = seeM cells W op) := rfl
        rw [HSM.out]
        clear hbr
        go_wp2_with fail
        refine HBR.out.mono ?_
        rintro e w7 ⟨rfl, rfl⟩
        go_wp2_with fail
        go_ret2
        exact ⟨by rw [HV.out]; rfl, hbw2.trans (hb.mono hws)⟩
end Go.Proofs.YtndmkbkmfonefadDoor
