/- The view of a board with some cells open, by the model. -/
import Derived.Test.YtndmkbkmfonefadDoorWE
import Derived.Test.YtndmkbkmfonefadDoorWC
import Derived.Outline
namespace Go.Proofs.YtndmkbkmfonefadDoor
open Go.RowKit

theorem noMine_of {cells : List UInt8} {xs : List Int} (hi : ∀ x ∈ xs, 0 ≤ x ∧ x < (cells.length : Int)) (h : ∀ j, j < cells.length → hasI xs (j : Nat) = true → cells.getD j 0 ≠ 42) : noMine cells xs = true := by
  refine List.all_eq_true.2 (fun x hx => ?_)
  have h1 := hi x hx
  have h2 := h x.toNat (by omega) (List.any_eq_true.2 ⟨x, hx, by simp; omega⟩)
  simpa using h2
theorem noMine_no {cells : List UInt8} {xs : List Int} {j : Nat} (h1 : hasI xs (j : Nat) = true) (h2 : cells.getD j 0 = 42) : noMine cells xs = false := by
  rw [← Bool.not_eq_true]
  intro q
  obtain ⟨x, hx, e⟩ := List.any_eq_true.1 h1
  have := List.all_eq_true.1 q x hx
  simp at e
  rw [e] at this
  rw [Int.toNat_natCast, h2] at this
  simp at this

set_option maxRecDepth 100000 in
set_option maxHeartbeats 3200000 in
theorem sViewOf_any (l : List UInt8) (xs : List Int) (a : Option Addr) (cap : Nat) (w : World) (hl : l.length ≤ 1048576) (hat : At w a (ints xs)) (hx : xs.length ≤ 1048576) :
    Calls Tryd.prog 29 #[.string ⟨l.toArray⟩, .slice a xs.length cap] w fun e w' => e = .returned (.tuple #[.string ⟨(voM l xs).toArray⟩, .bool (voOK l xs)]) ∧ Below w.heap.size w w' := by
  have hgd := fun w => boGood_any l w hl
  cases hg : boGoodM l with
  | false =>
    rw [hg] at hgd
    have HO := Lib.hid (vo_bad (xs := xs) hg)
    have HT := Lib.hid (vo_no HO.out)
    clear hg
    go_enter Tryd.func29, Tryd.ntmps29
    go_wp2_with fail
    refine (hgd _).mono ?_
    rintro e w1 ⟨rfl, hb1⟩
    go_wp2_with fail
    go_ret2
    exact ⟨by rw [HO.out, HT.out]; rfl, hb1⟩
  | true =>
    rw [hg] at hgd
    have hB := Brd.of hg
    obtain ⟨g1, g2, g3⟩ := hB.grid
    have HNO := Lib.hid (vo_no (l := l) (xs := xs))
    have HRIS := Lib.hid (vo_ris (l := l) (xs := xs))
    have HFAR := Lib.hid (vo_far (l := l) (xs := xs))
    have HMIN := Lib.hid (vo_mine (l := l) (xs := xs))
    have HYES := Lib.hid (vo_yes (l := l) (xs := xs) hg)
    have HVM : Hid (voOK l xs = true → voM l xs = textM (seeM (gCells l) (gW l) (fun k => hasI xs k)) (gW l) (gH l)) := fun h => by rw [voM, if_pos h]
    rw [g3] at HRIS HFAR HMIN HYES HVM
    rw [g1, g2] at HVM
    have HBT : Hid (brGo (headLen (splitB 47 l)) 0 (seeM (cellsM l) (headLen (splitB 47 l)) (fun k => hasI xs k)) = textM (seeM (cellsM l) (headLen (splitB 47 l)) (fun k => hasI xs k)) (headLen (splitB 47 l)) (splitB 47 l).length) := brGo_text _ _ hB.w1 _ (by simpa using hB.len)
    have hn64 := hB.n64
    have hW1 := hB.w1
    have hW8 := hB.w8
    have hH1 := hB.h1
    have hH8 := hB.h8
    have HL := Lib.hid hB.len
    have HSZ := Lib.hid hB.size
    have hsg := hB.sign
    have hcl := fun w => boCells_any l w hl
    have hsz := fun w => boSize_any l w hl
    rw [HSZ.out] at hsz
    have HSI := Lib.hid hsz
    generalize voM l xs = vm at *
    generalize voOK l xs = vo at *
    generalize hWe : headLen (splitB 47 l) = W at *
    generalize (splitB 47 l).length = H at *
    generalize cellsM l = cells at *
    clear hWe hB g1 g2 g3 hg hsz HSZ
    have hri := fun w h => l1Rising_any xs (cells.length : Int) ((cells.length : Int) - 1) (by omega) a cap w h hx
    cases hr : risesM (cells.length : Int) (-1) xs with
    | false =>
      rw [hr] at hri
      have HO := Lib.hid (HRIS.out hr)
      have HT := Lib.hid (HNO.out HO.out)
      clear hr
      go_enter Tryd.func29, Tryd.ntmps29
      go_wp2_with fail
      refine (hgd _).mono ?_
      rintro e w1 ⟨rfl, hb1⟩
      go_wp2_with fail
      refine (hcl _).mono ?_
      rintro e w1' ⟨rfl, rfl⟩
      go_wp2_with fail
      refine (hri _ (hat.later rfl hb1)).mono ?_
      rintro e w1' ⟨rfl, rfl⟩
      go_wp2_with fail
      go_ret2
      exact ⟨by rw [HO.out, HT.out]; rfl, hb1⟩
    | true =>
      rw [hr] at hri
      have HR := Lib.hid hr
      have HIN : Hid (∀ x ∈ xs, 0 ≤ x ∧ x < (cells.length : Int)) := rises_in xs (-1) (by omega) hr
      clear hr
      go_enter Tryd.func29, Tryd.ntmps29
      go_wp2_with fail
      refine (hgd _).mono ?_
      rintro e w1 ⟨rfl, hb1⟩
      go_wp2_with fail
      refine (hcl _).mono ?_
      rintro e w1' ⟨rfl, rfl⟩
      go_wp2_with fail
      refine (hri _ (hat.later rfl hb1)).mono ?_
      rintro e w1' ⟨rfl, rfl⟩
      go_wp2_with fail
      refine (HSI.out _).mono ?_
      rintro e w3 ⟨rfl, hb3⟩
      go_wp2_with fail
      refine (hcl _).mono ?_
      rintro e w1' ⟨rfl, rfl⟩
      have hbw : Below w.heap.size w w3 := hb1.trans (hb3.mono hb1.size)
      have hat1 := hat.later rfl hbw
      clear hb1 hb3 hcl hri hgd
      go_wp2_with fail
      have hI : (w3.iter ⟨cells.toArray⟩ 0).heap[w3.heap.size]? = some (.stringIter ⟨cells.toArray⟩ 0) := World.iter_heap w3 _ _
      have hbi : Below w3.heap.size w3 (w3.iter ⟨cells.toArray⟩ 0) := (Below.refl _ _).alloc (Nat.le_refl _) _
      have hsi : w3.heap.size < (w3.iter ⟨cells.toArray⟩ 0).heap.size := by simp [World.iter]
      have hat2 := hat1.later rfl hbi
      have hbw2 := hbw.trans (hbi.mono hbw.size)
      generalize w3.iter ⟨cells.toArray⟩ 0 = w4 at *
      have hat12 := hat1
      have hws := hbw.size
      have HRL : Hid ((seeM cells W (fun k => hasI xs (k : Nat))).length = cells.length) := by simp [Hid]
      generalize hop : (fun k : Nat => hasI xs (k : Nat)) = op at *
      have HOP2 : Hid (∀ k : Nat, hasI xs (k : Nat) = op k) := fun k => by rw [← hop]
      have HOF : Hid (op = fun k : Nat => hasI xs (k : Nat)) := hop.symm
      clear hop
      go_loopw [9] (fun v wr => ∃ k : Nat, k ≤ cells.length ∧ Hid (wr.heap[w3.heap.size]? = some (.stringIter ⟨cells.toArray⟩ k)) ∧ v = .string ⟨((List.range k).map (seeB cells W op)).toArray⟩ ∧ Below w3.heap.size w4 wr ∧ Hid (∀ j, j < k → op j = true → cells.getD j 0 ≠ 42)) (fun _ wr => cells.length - wr.iterPos w3.heap.size)
      case atStart => exact ⟨0, Nat.zero_le _, hI, rfl, Below.refl _ _, by intro j hj; omega⟩
      case round =>
        obtain ⟨k, hk, hIr, rfl, hb, hnm⟩ := hrel
        have hIlt := block_lt hIr.out
        have hatr : At wr a (ints xs) := hat2.below hat12 (Nat.le_refl _) hb
        by_cases hlt : k < cells.length
        · have hasc := sign_ascii (hsg _ (List.getElem_mem hlt))
          have hnx := fun ty => Lib.run_next_ascii_at (P := Tryd.prog) wr w3.heap.size ⟨cells.toArray⟩ k ty hIr.out (by simpa [ByteArray.size] using hlt) (by simpa using hasc)
          have hpos := Lib.hid (iterPos_at hIr.out)
          have i1 := iterAt_at hIlt ⟨cells.toArray⟩ (k + 1)
          have i2 := iterAt_below wr w3.heap.size ⟨cells.toArray⟩ (k + 1)
          have i3 := iterAt_size wr w3.heap.size ⟨cells.toArray⟩ (k + 1)
          have hati : At (wr.iterAt w3.heap.size ⟨cells.toArray⟩ (k + 1)) a (ints xs) := hatr.below hat12 (Nat.le_refl _) i2
          have hsn := Lib.hid (see_snoc cells W op k)
          have hacc : ((List.range k).map (seeB cells W op)).length = k := by simp
          have HGD : Hid (cells.getD k 0 = cells[k]) := by simp [Hid, List.getD, hlt]
          generalize (List.range k).map (seeB cells W op) = acc at *
          have hh := fun w h => l1Has_any xs (k : Int) a cap w h hx
          cases ho : op k with
          | true =>
            rw [HOP2.out k, ho] at hh
            have hp := Lib.hid (show seeB cells W op k = digB (numM cells W k) by rw [seeB, if_pos ho])
            have h9 := numM_nine cells W H k hW8 hH8 HL.out hlt
            have HH := Lib.hid hh
            have HOK := Lib.hid ho
            clear hh ho
            by_cases h42 : cells[k] = 42
            · have hd : ((cells[k].toNat : Int) == 42) = true := by rw [isMine_byte]; simp [h42]
              have HO := Lib.hid (HMIN.out (noMine_no (j := k) (by rw [HOP2.out k]; exact HOK.out) (by rw [HGD.out, h42])))
              have HT := Lib.hid (HNO.out HO.out)
              clear hasc h42
              go_wp2_with fail
              clear hnx
              generalize wr.iterAt w3.heap.size ⟨cells.toArray⟩ (k + 1) = wi at *
              refine (HH.out _ hati).mono ?_
              rintro e wi' ⟨rfl, rfl⟩
              go_wp2_with fail
              go_ret2
              exact ⟨by rw [HO.out, HT.out]; rfl, hbw2.trans ((hb.trans i2).mono hws)⟩
            · have hd : ((cells[k].toNat : Int) == 42) = false := by rw [isMine_byte]; simp [h42]
              have HN42 := Lib.hid h42
              clear hasc h42
              go_wp2_with fail
              clear hnx
              generalize wr.iterAt w3.heap.size ⟨cells.toArray⟩ (k + 1) = wi at *
              refine (HH.out _ hati).mono ?_
              rintro e wi' ⟨rfl, rfl⟩
              go_wp2_with fail
              refine (boNumber_any W H cells k _ ⟨hW1, hW8⟩ hH8 HL.out hlt).mono ?_
              rintro e w5 ⟨rfl, hb5⟩
              have s5 := hb5.size
              have i5 := Lib.hid ((hb5.block w3.heap.size (by omega)).trans i1)
              clear i1
              go_wp2_with fail
              refine (l1Num_any _ _ h9).mono ?_
              rintro e w6 ⟨rfl, hb6⟩
              have i6 := (hb6.block w3.heap.size (by omega)).trans i5.out
              have ip := Lib.hid (iterPos_at i6)
              have I6 := Lib.hid i6
              clear i6
              go_wp2_with fail
              go_roundw
              case rel => exact ⟨k + 1, by omega, I6, by rw [hsn.out, hp.out], ((hb.trans i2).trans (hb5.mono (by omega))).trans (hb6.mono (by omega)), fun j hj hoj => by
                by_cases q : j = k
                · subst q; rw [HGD.out]; exact HN42.out
                · exact hnm.out j (by omega) hoj⟩
              case measure => rw [hpos.out, ip.out]; omega
          | false =>
            rw [HOP2.out k, ho] at hh
            have hp := Lib.hid (show seeB cells W op k = 63 by rw [seeB, if_neg (by rw [ho]; decide)])
            have HH := Lib.hid hh
            have HOK := Lib.hid ho
            clear hasc ho hh
            go_wp2_with fail
            clear hnx
            generalize wr.iterAt w3.heap.size ⟨cells.toArray⟩ (k + 1) = wi at *
            refine (HH.out _ hati).mono ?_
            rintro e wi' ⟨rfl, rfl⟩
            have ip := Lib.hid (iterPos_at i1)
            have I1 := Lib.hid i1
            clear i1
            go_wp2_with fail
            go_roundw
            case rel => exact ⟨k + 1, by omega, I1, by rw [hsn.out, hp.out], hb.trans i2, fun j hj hoj => by
              by_cases q : j = k
              · subst q; rw [HOK.out] at hoj; cases hoj
              · exact hnm.out j (by omega) hoj⟩
            case measure => rw [hpos.out, ip.out]; omega
        · obtain rfl : k = cells.length := by omega
          have hnx := fun ty => Lib.run_next_end_at (P := Tryd.prog) wr w3.heap.size ⟨cells.toArray⟩ cells.length ty hIr.out (by simp [ByteArray.size])
          have hbr := boRows_any (seeM cells W op) W wr (by rw [HRL.out]; exact hn64) hW1 (by omega)
          have HBR := Lib.hid hbr
          have HSM : Hid ((List.range cells.length).map (seeB cells W op) = seeM cells W op) := rfl
          have hnoM : noMine cells xs = true := noMine_of HIN.out (fun j hj h => hnm.out j hj (by rw [← HOP2.out j]; exact h))
          have htl := textM_le (seeM cells W op) W H hW8 hH8
          have hvg := fun w => viGood_any (textM (seeM cells W op) W H) w (by omega)
          rw [view_text ⟨hW1, hW8⟩ ⟨hH1, hH8⟩ (by rw [HRL.out]; exact HL.out) (by rw [HOF.out]; exact see_signs _ hW8 hH8 HL.out)] at hvg
          have hhs := hid_see (xs := xs) hW8 hH8 HL.out HR.out
          rw [← HOF.out] at hhs
          have HBT2 := HBT
          by_cases hf : cells.length ≤ xs.length + 14
          · have HO := Lib.hid (HYES.out HR.out hf hnoM)
            have HT : Hid (vm = textM (seeM cells W op) W H) := by rw [Hid, HVM.out HO.out, HOF.out]
            rw [decide_eq_true (by omega)] at hvg
            have HVG := Lib.hid hvg
            rw [HSM.out]
            clear hbr hnoM hvg hhs hf
            go_wp2_with fail
            refine HBR.out.mono ?_
            rintro e w7 ⟨rfl, rfl⟩
            rw [HBT.out]
            go_wp2_with fail
            refine (HVG.out _).mono ?_
            rintro e w8 ⟨rfl, hb8⟩
            go_wp2_with fail
            go_ret2
            exact ⟨by rw [HO.out, HT.out]; rfl, (hbw2.trans (hb.mono hws)).trans (hb8.mono (by have := hb.size; omega))⟩
          · have HO := Lib.hid (HFAR.out hf)
            have HT := Lib.hid (HNO.out HO.out)
            rw [decide_eq_false (by omega)] at hvg
            have HVG := Lib.hid hvg
            rw [HSM.out]
            clear hbr hnoM hvg hhs hf
            go_wp2_with fail
            refine HBR.out.mono ?_
            rintro e w7 ⟨rfl, rfl⟩
            rw [HBT.out]
            go_wp2_with fail
            refine (HVG.out _).mono ?_
            rintro e w8 ⟨rfl, hb8⟩
            go_wp2_with fail
            go_ret2
            exact ⟨by rw [HO.out, HT.out]; rfl, (hbw2.trans (hb.mono hws)).trans (hb8.mono (by have := hb.size; omega))⟩
end Go.Proofs.YtndmkbkmfonefadDoor
