/- CR, CS, laid as one text. -/
import Derived.Test.YthlbplmghjaeoacDoorGCP
import Derived.Outline

/- Notes: the first pair that finds something, by the model; FirstPair both ways. -/
namespace Go.Proofs.YthlbplmghjaeoacDoor
open Go.RowKit

theorem pair_self (cells : List UInt8) (W k : Nat) : fnd (pairAt cells W (nrS cells W k 63) (restM cells W k) k) = false := by
  have e : ((nrS cells W k 63).filter fun x => !decide (x ∈ nrS cells W k 63)) = [] := by
    rw [List.filter_eq_nil_iff]
    intro x hx
    simp [hx]
  rw [pairAt, pairL, e, Int.sub_self, if_pos rfl, if_pos rfl]
  rfl
theorem fstP_fnd (cells : List UInt8) (W : Nat) (ks : List Nat) : ∀ r : List Nat, fnd (fstP cells W ks r).2.2 = false → (fstP cells W ks r).1 = 0 ∧ (fstP cells W ks r).2.1 = 0
  | [], _ => ⟨rfl, rfl⟩
  | a :: r, h => by
    unfold fstP at h ⊢
    by_cases hf : fnd (fstM cells W (nrS cells W a 63) (restM cells W a) ks).2 = true
    · rw [if_pos hf] at h
      simp only at h
      rw [hf] at h; cases h
    · rw [if_neg hf] at h ⊢
      exact fstP_fnd cells W ks r h

set_option maxRecDepth 100000 in
set_option maxHeartbeats 6400000 in
theorem ruFirst_pair (l : List UInt8) (W H : Nat) (cells : List UInt8) (hB : Grd l W H cells) (hsg : ∀ c ∈ cells, noteSign c = true) (w : World) (hl : l.length ≤ 1048576) :
    Calls Tryd.prog 33 #[.string ⟨l.toArray⟩, .bool true] w fun e w' => e = .returned (.tuple #[.int .i64 ((fstP cells W (opens cells) (opens cells)).1 : Nat), .int .i64 ((fstP cells W (opens cells) (opens cells)).2.1 : Nat), .bool (fnd (fstP cells W (opens cells) (opens cells)).2.2)]) ∧ Below w.heap.size w w' := by
  have hbc := fun w => boCells_any l w hl
  rw [hB.cs] at hbc
  have h64 := hB.n64
  have HPI := Lib.hid (fun x y hx hy hox hoy w => ruPair_any l W H cells hB x y hx hy hox hoy w hl)
  rw [← opR_zero]
  clear hB
  go_enter Tryd.func33, Tryd.ntmps33
  go_wp2_with fail
  refine (hbc _).mono ?_
  rintro e w1 ⟨rfl, rfl⟩
  go_wp2_with fail
  have hI : (w.iter ⟨cells.toArray⟩ 0).heap[w.heap.size]? = some (.stringIter ⟨cells.toArray⟩ 0) := World.iter_heap w _ _
  have hbi : Below w.heap.size w (w.iter ⟨cells.toArray⟩ 0) := (Below.refl _ _).alloc (Nat.le_refl _) _
  have hsi : w.heap.size < (w.iter ⟨cells.toArray⟩ 0).heap.size := by simp [World.iter]
  generalize w.iter ⟨cells.toArray⟩ 0 = w4 at *
  generalize hII : w.heap.size = I at *
  have HII := Lib.hid hII
  clear hII hbc
  go_loopw [] (fun wr => ∃ k : Nat, k ≤ cells.length ∧ Hid (wr.heap[I]? = some (.stringIter ⟨cells.toArray⟩ k)) ∧ Hid (fstP cells W (opR cells 0) (opR cells 0) = fstP cells W (opR cells 0) (opR cells k)) ∧ Below I w4 wr) (fun wr => cells.length - wr.iterPos I)
  case atStart => exact ⟨0, Nat.zero_le _, hI, rfl, Below.refl _ _⟩
  case round =>
    obtain ⟨k, hk, hIr, hR, hb⟩ := hrel
    have hIlt := block_lt hIr.out
    by_cases hlt : k < cells.length
    · have hasc := note_ascii (hsg _ (List.getElem_mem hlt))
      have hnx := fun ty => Lib.run_next_ascii_at (P := Tryd.prog) wr I ⟨cells.toArray⟩ k ty hIr.out (by simpa [ByteArray.size] using hlt) (by simpa using hasc)
      have hpos := Lib.hid (iterPos_at hIr.out)
      have i1 := iterAt_at hIlt ⟨cells.toArray⟩ (k + 1)
      have i2 := iterAt_below wr I ⟨cells.toArray⟩ (k + 1)
      have hgd : cells.getD k 0 = cells[k] := by simp [List.getD, hlt]
      have hro := fun w => ruOpen_any cells[k] w
      have hop : opB cells k = digSign cells[k] := by rw [opB, hgd]
      rw [← hop] at hro
      clear hasc hgd hop
      cases ho : opB cells k with
      | false =>
        have HST := Lib.hid (opR_no hlt ho)
        rw [ho] at hro
        have HRO := Lib.hid hro
        clear ho hro
        go_wp2_with fail
        clear hnx
        generalize wr.iterAt I ⟨cells.toArray⟩ (k + 1) = wi at *
        refine (HRO.out _).mono ?_
        rintro e w5 ⟨rfl, rfl⟩
        have ip := Lib.hid (iterPos_at i1)
        have I1 := Lib.hid i1
        clear i1
        go_wp2_with fail
        go_roundw
        case rel => exact ⟨k + 1, by omega, I1, by rw [Hid, hR.out, HST.out], hb.trans i2⟩
        case measure => rw [hpos.out, ip.out]; omega
      | true =>
        have HST : Hid (fstP cells W (opR cells 0) (opR cells k) = if fnd (fstM cells W (nrS cells W k 63) (restM cells W k) (opR cells 0)).2 = true then (k, fstM cells W (nrS cells W k 63) (restM cells W k) (opR cells 0)) else fstP cells W (opR cells 0) (opR cells (k + 1))) := by rw [Hid, opR_yes hlt ho, fstP]
        have HPK := Lib.hid (fun y hy hoy => HPI.out k y hlt hy ho hoy)
        have HSELF := Lib.hid (pair_self cells W k)
        rw [ho] at hro
        have HRO := Lib.hid hro
        clear ho hro
        generalize nrS cells W k 63 = na at *
        generalize restM cells W k = ra at *
        go_wp2_with fail
        clear hnx
        generalize wr.iterAt I ⟨cells.toArray⟩ (k + 1) = wi at *
        refine (HRO.out _).mono ?_
        rintro e w5 ⟨rfl, rfl⟩
        have HB2 := Lib.hid (hb.trans i2)
        have hIwi := block_lt i1
        have HI1 := Lib.hid i1
        clear i1 hIr
        go_wp2_with fail
        have hJ : (wi.iter ⟨cells.toArray⟩ 0).heap[wi.heap.size]? = some (.stringIter ⟨cells.toArray⟩ 0) := World.iter_heap wi _ _
        have hbj : Below wi.heap.size wi (wi.iter ⟨cells.toArray⟩ 0) := (Below.refl _ _).alloc (Nat.le_refl _) _
        have hsj : wi.heap.size < (wi.iter ⟨cells.toArray⟩ 0).heap.size := by simp [World.iter]
        generalize wi.iter ⟨cells.toArray⟩ 0 = wj at *
        generalize hJJ : wi.heap.size = J at *
        have HJB := Lib.hid (HB2.out.trans (hbj.mono (by omega)))
        have HIJ := Lib.hid ((hbj.block I (by omega)).trans HI1.out)
        clear hbj
        go_loopw [] (fun wr => ∃ j : Nat, j ≤ cells.length ∧ Hid (wr.heap[J]? = some (.stringIter ⟨cells.toArray⟩ j)) ∧ Hid (fstM cells W na ra (opR cells 0) = fstM cells W na ra (opR cells j)) ∧ Below J wj wr) (fun wr => cells.length - wr.iterPos J)
        case atStart => exact ⟨0, Nat.zero_le _, hJ, rfl, Below.refl _ _⟩
        case round =>
          obtain ⟨j, hj, hJr, hRj, hbq⟩ := hrel
          have hJlt := block_lt hJr.out
          by_cases hltj : j < cells.length
          · have hascj := note_ascii (hsg _ (List.getElem_mem hltj))
            have hnxj := fun ty => Lib.run_next_ascii_at (P := Tryd.prog) wr J ⟨cells.toArray⟩ j ty hJr.out (by simpa [ByteArray.size] using hltj) (by simpa using hascj)
            have hposj := Lib.hid (iterPos_at hJr.out)
            have j1 := iterAt_at hJlt ⟨cells.toArray⟩ (j + 1)
            have j2 := iterAt_below wr J ⟨cells.toArray⟩ (j + 1)
            have hgdj : cells.getD j 0 = cells[j] := by simp [List.getD, hltj]
            have hroj := fun w => ruOpen_any cells[j] w
            have hopj : opB cells j = digSign cells[j] := by rw [opB, hgdj]
            rw [← hopj] at hroj
            clear hascj hgdj hopj
            by_cases hjk : k = j
            · subst hjk
              have hd : ((k : Int) == (k : Int)) = true := by simp
              have HN : Hid (fstM cells W na ra (opR cells k) = fstM cells W na ra (opR cells (k + 1))) := by
                cases hoj : opB cells k with
                | false => rw [Hid, opR_no hltj hoj]
                | true => rw [Hid, opR_yes hltj hoj, fstM, if_neg (by rw [HSELF.out]; decide)]
              clear hroj
              go_wp2_with fail
              clear hnxj
              generalize wr.iterAt J ⟨cells.toArray⟩ (k + 1) = wz at *
              have ipj := Lib.hid (iterPos_at j1)
              have J1 := Lib.hid j1
              clear j1
              go_wp2_with fail
              go_roundw
              case rel => exact ⟨k + 1, by omega, J1, by rw [Hid, hRj.out, HN.out], hbq.trans j2⟩
              case measure => rw [hposj.out, ipj.out]; omega
            · have hd : ((k : Int) == (j : Int)) = false := by simp; omega
              cases hoj : opB cells j with
              | false =>
                have HSTj := Lib.hid (opR_no hltj hoj)
                rw [hoj] at hroj
                have HROj := Lib.hid hroj
                clear hoj hroj hjk
                go_wp2_with fail
                clear hnxj
                generalize wr.iterAt J ⟨cells.toArray⟩ (j + 1) = wz at *
                refine (HROj.out _).mono ?_
                rintro e w5 ⟨rfl, rfl⟩
                have ipj := Lib.hid (iterPos_at j1)
                have J1 := Lib.hid j1
                clear j1
                go_wp2_with fail
                go_roundw
                case rel => exact ⟨j + 1, by omega, J1, by rw [Hid, hRj.out, HSTj.out], hbq.trans j2⟩
                case measure => rw [hposj.out, ipj.out]; omega
              | true =>
                have HSTj : Hid (fstM cells W na ra (opR cells j) = if fnd (pairAt cells W na ra j) = true then (j, pairAt cells W na ra j) else fstM cells W na ra (opR cells (j + 1))) := by rw [Hid, opR_yes hltj hoj, fstM]
                have HPJ := Lib.hid (HPK.out j hltj hoj)
                rw [hoj] at hroj
                have HROj := Lib.hid hroj
                have hfl := fnd_len (pairAt cells W na ra j)
                have hcl := pairL_cel (na := na) (restM cells W j - ra) (Cel.near cells W j 63)
                have hl1 : (pairAt cells W na ra j).1.length ≤ cells.length := hcl.1.len
                have hl2 : (pairAt cells W na ra j).2.length ≤ cells.length := hcl.2.len
                clear hoj hroj hcl hjk
                generalize pairAt cells W na ra j = P at *
                go_wp2_with fail
                clear hnxj
                generalize wr.iterAt J ⟨cells.toArray⟩ (j + 1) = wz at *
                refine (HROj.out _).mono ?_
                rintro e w5 ⟨rfl, rfl⟩
                have HBj := Lib.hid (hbq.trans j2)
                go_wp2_with fail
                refine (HPJ.out _).mono ?_
                rintro e w6 ⟨a1, c1, a2, c2, rfl, _, _, hb6⟩
                have s6 := hb6.size
                have j5 := (hb6.block J (by have := block_lt j1; omega)).trans j1
                have ipj := Lib.hid (iterPos_at j5)
                have J5 := Lib.hid j5
                have HB6 := Lib.hid (HBj.out.trans (hb6.mono (by have := block_lt j1; omega)))
                clear j5 hb6 j1
                cases hf : fnd P with
                | true =>
                  rw [hf] at hfl HSTj
                  have HFM : Hid (fstM cells W na ra (opR cells 0) = (j, P)) := by rw [Hid, hRj.out, HSTj.out]; rfl
                  have HFP : Hid (fstP cells W (opR cells 0) (opR cells 0) = (k, (j, P))) := by rw [Hid, hR.out, HST.out, HFM.out, if_pos hf]
                  have HFF := Lib.hid hf
                  have hd2 : decide ((P.1.length : Int) + (P.2.length : Int) > 0) = true := hfl.symm
                  clear hfl hf
                  go_wp2_with fail
                  go_ret3
                  exact ⟨by rw [HFP.out, HFF.out]; rfl, by rw [HII.out]; exact hbi.trans (HJB.out.trans (HB6.out.mono (by omega)))⟩
                | false =>
                  rw [hf] at hfl HSTj
                  have HN : Hid (fstM cells W na ra (opR cells 0) = fstM cells W na ra (opR cells (j + 1))) := by rw [Hid, hRj.out, HSTj.out]; rfl
                  have hd2 : decide ((P.1.length : Int) + (P.2.length : Int) > 0) = false := hfl.symm
                  clear hfl hf
                  go_wp2_with fail
                  go_roundw
                  case rel => exact ⟨j + 1, by omega, J5, HN.out, HB6.out⟩
                  case measure => rw [hposj.out, ipj.out]; omega
          · obtain rfl : j = cells.length := by omega
            have hnxj := fun ty => Lib.run_next_end_at (P := Tryd.prog) wr J ⟨cells.toArray⟩ cells.length ty hJr.out (by simp [ByteArray.size])
            have HFM : Hid (fstM cells W na ra (opR cells 0) = (0, ([], []))) := by rw [Hid, hRj.out, opR_end]; rfl
            have HN : Hid (fstP cells W (opR cells 0) (opR cells k) = fstP cells W (opR cells 0) (opR cells (k + 1))) := by
              rw [Hid, HST.out, HFM.out, if_neg (by decide)]
            have iq := (hbq.block I (by omega)).trans HIJ.out
            have ip := Lib.hid (iterPos_at iq)
            have IQ := Lib.hid iq
            clear iq
            go_wp2_with fail
            go_roundw
            case rel => exact ⟨k + 1, by omega, IQ, by rw [Hid, hR.out, HN.out], HJB.out.trans (hbq.mono (by omega))⟩
            case measure => rw [hpos.out, ip.out]; omega
    · obtain rfl : k = cells.length := by omega
      have hnx := fun ty => Lib.run_next_end_at (P := Tryd.prog) wr I ⟨cells.toArray⟩ cells.length ty hIr.out (by simp [ByteArray.size])
      have HFIN : Hid (fstP cells W (opR cells 0) (opR cells 0) = (0, 0, ([], []))) := by rw [Hid, hR.out, opR_end]; rfl
      go_wp2_with fail
      go_ret3
      exact ⟨by rw [HFIN.out]; rfl, by rw [HII.out]; exact hbi.trans hb⟩

/-- What FirstPair and FirstSingle hand back. -/
def fpM (l : List UInt8) : Nat × Nat × (List Nat × List Nat) := fstP (snC l) (snW l) (opens (snC l)) (opens (snC l))
def fsM (l : List UInt8) : Nat × (List Nat × List Nat) := fstM (snC l) (snW l) [] 0 (opens (snC l))

set_option maxRecDepth 100000 in
theorem sFirstPair_any (l : List UInt8) (w : World) (hl : l.length ≤ 1048576) :
    Calls Tryd.prog 16 #[.string ⟨l.toArray⟩] w fun e w' => e = .returned (.tuple #[.int .i64 ((fpM l).1 : Nat), .int .i64 ((fpM l).2.1 : Nat), .bool (fnd (fpM l).2.2)]) ∧ Below w.heap.size w w' := by
  have h1 := fun w => ruGood_any l w hl
  cases hg : gridM noteSign l with
  | false =>
    have hb : isB l = false := by rw [isB, hg]; rfl
    obtain ⟨e1, e2, e3⟩ := sn_no hb
    have HF : Hid (fpM l = (0, 0, ([], []))) := by rw [Hid, fpM, e1, e3]; rfl
    rw [hg] at h1
    clear hg hb e1 e2 e3
    go_enter Tryd.func16, Tryd.ntmps16
    go_wp2_with (go_at_call 31; refine (h1 _).mono ?_; rintro e w1 ⟨rfl, hb⟩)
    go_ret3
    exact ⟨by rw [HF.out]; rfl, hb⟩
  | true =>
    rw [hg] at h1
    obtain ⟨hB, hsg⟩ := Grd.note hg
    have HS := Lib.hid (fun w => ruSound_any l _ _ _ hB hsg w hl)
    cases hsd : soundM (grC noteSign l) (grW noteSign l) with
    | false =>
      have hb : isB l = false := by rw [isB, hsd]; simp
      obtain ⟨e1, e2, e3⟩ := sn_no hb
      have HF : Hid (fpM l = (0, 0, ([], []))) := by rw [Hid, fpM, e1, e3]; rfl
      rw [hsd] at HS
      clear hg hb e1 e2 e3 hB hsg hsd
      go_enter Tryd.func16, Tryd.ntmps16
      go_wp2_with fail
      refine (h1 _).mono ?_
      rintro e w1 ⟨rfl, hb⟩
      go_wp2_with fail
      refine (HS.out _).mono ?_
      rintro e w2 ⟨rfl, hb2⟩
      go_wp2_with fail
      go_ret3
      exact ⟨by rw [HF.out]; rfl, hb.trans (hb2.mono hb.size)⟩
    | true =>
      have hb : isB l = true := by rw [isB, hg, hsd]; rfl
      obtain ⟨e1, e2, e3⟩ := sn_yes hb
      have HFI := Lib.hid (fun w => ruFirst_pair l _ _ _ hB hsg w hl)
      have HF : Hid (fpM l = fstP (grC noteSign l) (grW noteSign l) (opens (grC noteSign l)) (opens (grC noteSign l))) := by rw [Hid, fpM, e1, e3]
      rw [hsd] at HS
      rw [← HF.out] at HFI
      clear hg hb e1 e2 e3 hB hsg hsd
      go_enter Tryd.func16, Tryd.ntmps16
      go_wp2_with fail
      refine (h1 _).mono ?_
      rintro e w1 ⟨rfl, hb⟩
      go_wp2_with fail
      refine (HS.out _).mono ?_
      rintro e w2 ⟨rfl, hb2⟩
      have hb02 := hb.trans (hb2.mono hb.size)
      go_wp2_with fail
      refine (HFI.out _).mono ?_
      rintro e w3 ⟨rfl, hb3⟩
      go_wp2_with fail
      go_ret3
      exact ⟨rfl, hb02.trans (hb3.mono hb02.size)⟩

set_option maxRecDepth 100000 in
theorem sFirstSingle_any (l : List UInt8) (w : World) (hl : l.length ≤ 1048576) :
    Calls Tryd.prog 14 #[.string ⟨l.toArray⟩] w fun e w' => e = .returned (.tuple #[.int .i64 ((fsM l).1 : Nat), .bool (fnd (fsM l).2)]) ∧ Below w.heap.size w w' := by
  have h1 := fun w => ruGood_any l w hl
  cases hg : gridM noteSign l with
  | false =>
    have hb : isB l = false := by rw [isB, hg]; rfl
    obtain ⟨e1, e2, e3⟩ := sn_no hb
    have HF : Hid (fsM l = (0, ([], []))) := by rw [Hid, fsM, e1, e3]; rfl
    rw [hg] at h1
    clear hg hb e1 e2 e3
    go_enter Tryd.func14, Tryd.ntmps14
    go_wp2_with (go_at_call 31; refine (h1 _).mono ?_; rintro e w1 ⟨rfl, hb⟩)
    go_ret2
    exact ⟨by rw [HF.out]; rfl, hb⟩
  | true =>
    rw [hg] at h1
    obtain ⟨hB, hsg⟩ := Grd.note hg
    have HS := Lib.hid (fun w => ruSound_any l _ _ _ hB hsg w hl)
    cases hsd : soundM (grC noteSign l) (grW noteSign l) with
    | false =>
      have hb : isB l = false := by rw [isB, hsd]; simp
      obtain ⟨e1, e2, e3⟩ := sn_no hb
      have HF : Hid (fsM l = (0, ([], []))) := by rw [Hid, fsM, e1, e3]; rfl
      rw [hsd] at HS
      clear hg hb e1 e2 e3 hB hsg hsd
      go_enter Tryd.func14, Tryd.ntmps14
      go_wp2_with fail
      refine (h1 _).mono ?_
      rintro e w1 ⟨rfl, hb⟩
      go_wp2_with fail
      refine (HS.out _).mono ?_
      rintro e w2 ⟨rfl, hb2⟩
      go_wp2_with fail
      go_ret2
      exact ⟨by rw [HF.out]; rfl, hb.trans (hb2.mono hb.size)⟩
    | true =>
      have hb : isB l = true := by rw [isB, hg, hsd]; rfl
      obtain ⟨e1, e2, e3⟩ := sn_yes hb
      have HFI := Lib.hid (fun w => ruFirst_single l _ _ _ hB hsg w hl)
      have HF : Hid (fsM l = fstM (grC noteSign l) (grW noteSign l) [] 0 (opens (grC noteSign l))) := by rw [Hid, fsM, e1, e3]
      rw [hsd] at HS
      rw [← HF.out] at HFI
      clear hg hb e1 e2 e3 hB hsg hsd
      go_enter Tryd.func14, Tryd.ntmps14
      go_wp2_with fail
      refine (h1 _).mono ?_
      rintro e w1 ⟨rfl, hb⟩
      go_wp2_with fail
      refine (HS.out _).mono ?_
      rintro e w2 ⟨rfl, hb2⟩
      have hb02 := hb.trans (hb2.mono hb.size)
      go_wp2_with fail
      refine (HFI.out _).mono ?_
      rintro e w3 ⟨rfl, hb3⟩
      go_wp2_with fail
      go_ret2
      exact ⟨rfl, hb02.trans (hb3.mono hb02.size)⟩
end Go.Proofs.YthlbplmghjaeoacDoor

/- Notes: FirstPair by the program. -/
namespace Go.Proofs.YthlbplmghjaeoacDoor
open Go.RowKit

theorem fp_mask (l : List UInt8) : fnd (fpM l).2.2 = !(maskM (fpM l).2.2.1 == 0 && maskM (fpM l).2.2.2 == 0) := by
  obtain ⟨h1, h2⟩ := fstP_cel (snC l) (snW l) (opens (snC l)) (opens (snC l))
  exact fnd_mask (sn_le l) h1 h2
theorem fs_mask (l : List UInt8) : fnd (fsM l).2 = !(maskM (fsM l).2.1 == 0 && maskM (fsM l).2.2 == 0) := by
  obtain ⟨h1, h2⟩ := fst_cel (snC l) (snW l) [] 0 (opens (snC l))
  exact fnd_mask (sn_le l) h1 h2

set_option maxRecDepth 100000 in
set_option maxHeartbeats 3200000 in
theorem iFirstPair_any (l : List UInt8) (w : World) (hM : HasMax w) (hl : l.length ≤ 1048576) :
    Calls Tryd.prog 17 #[.string ⟨l.toArray⟩] w fun e w' => e = .returned (.tuple #[.int .i64 ((fpM l).1 : Nat), .int .i64 ((fpM l).2.1 : Nat), .bool (fnd (fpM l).2.2)]) ∧ Below w.heap.size w w' := by
  have HRS := Lib.hid (readSound_any l w hM hl)
  have HOC := Lib.hid (fun w => openCells_any (snW l) (snH l) (snC l) w (sn_pos l) (sn_le l))
  have HFP := Lib.hid (fun B a cap w h => firstPair_any (snW l) (snC l) (sn_le l) B a cap w h)
  have hfm := fp_mask l
  have HFM : Hid (fpM l = fstP (snC l) (snW l) (opens (snC l)) (opens (snC l))) := rfl
  rw [← HFM.out] at HFP
  unfold ntV fdV at *
  generalize fpM l = F at *
  obtain ⟨x, y, P⟩ := F
  simp only at hfm HFP ⊢
  generalize hm1 : maskM P.1 = m1 at *
  generalize hm2 : maskM P.2 = m2 at *
  clear hm1 hm2 HFM
  have hcase : (m1 = 0 ∧ m2 = 0 ∧ fnd P = false) ∨ (¬ ((m1 : Int) = 0) ∧ fnd P = true) ∨ (m1 = 0 ∧ ¬ ((m2 : Int) = 0) ∧ fnd P = true) := by
    by_cases h1 : m1 = 0
    · by_cases h2 : m2 = 0
      · exact .inl ⟨h1, h2, by rw [hfm, h1, h2]; rfl⟩
      · exact .inr (.inr ⟨h1, by omega, by rw [hfm]; simp [h2]⟩)
    · exact .inr (.inl ⟨by omega, by rw [hfm]; simp [h1]⟩)
  clear hfm
  rcases hcase with ⟨rfl, rfl, hf⟩ | ⟨n1, hf⟩ | ⟨rfl, n2, hf⟩
  · rw [hf]
    go_enter Tryd.func17, Tryd.ntmps17
    go_wp2_with fail
    refine HRS.out.mono ?_
    rintro e w1 ⟨rfl, hb1⟩
    have hb1a := hb1.alloc hb1.size (.cells #[.int .i64 (snW l), .int .i64 (snH l), .string ⟨(snC l).toArray⟩] 41)
    go_wp2_with fail
    refine (HOC.out _).mono ?_
    rintro e w2 ⟨a, cap, rfl, hown, hb2⟩
    have hb02 := hb1a.trans (hb2.mono hb1a.size)
    go_wp2_with fail
    refine (HFP.out _ _ _ _ hown).mono ?_
    rintro e w3 ⟨rfl, hb3⟩
    have hb03 := hb02.trans (hb3.mono hb02.size)
    have hX := heap_alloc_new w3 (.cells #[.int .u64 0, .int .u64 0] 55)
    have hb04 := hb03.alloc hb03.size (.cells #[.int .u64 0, .int .u64 0] 55)
    go_wp2_with fail
    generalize w3.alloc (.cells #[.int .u64 0, .int .u64 0] 55) = w4 at *
    have x0 : w4.cell? ⟨w3.heap.size, 0, none⟩ = some (.int .u64 0) := by rw [cell_of_block hX]; rfl
    have x1 : w4.cell? ⟨w3.heap.size, 1, none⟩ = some (.int .u64 0) := by rw [cell_of_block hX]; rfl
    go_quiet (fail)
    go_wp2_with fail
    go_ret3
    exact ⟨rfl, below_drewN hb04 _⟩
  · have n1' : ((m1 : Int) == 0) = false := by simpa using n1
    rw [hf]
    go_enter Tryd.func17, Tryd.ntmps17
    go_wp2_with fail
    refine HRS.out.mono ?_
    rintro e w1 ⟨rfl, hb1⟩
    have hb1a := hb1.alloc hb1.size (.cells #[.int .i64 (snW l), .int .i64 (snH l), .string ⟨(snC l).toArray⟩] 41)
    go_wp2_with fail
    refine (HOC.out _).mono ?_
    rintro e w2 ⟨a, cap, rfl, hown, hb2⟩
    have hb02 := hb1a.trans (hb2.mono hb1a.size)
    go_wp2_with fail
    refine (HFP.out _ _ _ _ hown).mono ?_
    rintro e w3 ⟨rfl, hb3⟩
    have hb03 := hb02.trans (hb3.mono hb02.size)
    have hX := heap_alloc_new w3 (.cells #[.int .u64 m1, .int .u64 m2] 55)
    have hb04 := hb03.alloc hb03.size (.cells #[.int .u64 m1, .int .u64 m2] 55)
    go_wp2_with fail
    generalize w3.alloc (.cells #[.int .u64 m1, .int .u64 m2] 55) = w4 at *
    have x0 : w4.cell? ⟨w3.heap.size, 0, none⟩ = some (.int .u64 m1) := by rw [cell_of_block hX]; rfl
    have x1 : w4.cell? ⟨w3.heap.size, 1, none⟩ = some (.int .u64 m2) := by rw [cell_of_block hX]; rfl
    go_quiet (fail)
    go_wp2_with fail
    go_ret3
    exact ⟨rfl, below_drewN hb04 _⟩
  · have n2' : ((m2 : Int) == 0) = false := by simpa using n2
    rw [hf]
    go_enter Tryd.func17, Tryd.ntmps17
    go_wp2_with fail
    refine HRS.out.mono ?_
    rintro e w1 ⟨rfl, hb1⟩
    have hb1a := hb1.alloc hb1.size (.cells #[.int .i64 (snW l), .int .i64 (snH l), .string ⟨(snC l).toArray⟩] 41)
    go_wp2_with fail
    refine (HOC.out _).mono ?_
    rintro e w2 ⟨a, cap, rfl, hown, hb2⟩
    have hb02 := hb1a.trans (hb2.mono hb1a.size)
    go_wp2_with fail
    refine (HFP.out _ _ _ _ hown).mono ?_
    rintro e w3 ⟨rfl, hb3⟩
    have hb03 := hb02.trans (hb3.mono hb02.size)
    have hX := heap_alloc_new w3 (.cells #[.int .u64 0, .int .u64 m2] 55)
    have hb04 := hb03.alloc hb03.size (.cells #[.int .u64 0, .int .u64 m2] 55)
    go_wp2_with fail
    generalize w3.alloc (.cells #[.int .u64 0, .int .u64 m2] 55) = w4 at *
    have x0 : w4.cell? ⟨w3.heap.size, 0, none⟩ = some (.int .u64 0) := by rw [cell_of_block hX]; rfl
    have x1 : w4.cell? ⟨w3.heap.size, 1, none⟩ = some (.int .u64 m2) := by rw [cell_of_block hX]; rfl
    go_quiet (fail)
    go_wp2_with fail
    go_ret3
    exact ⟨rfl, below_drewN hb04 _⟩
end Go.Proofs.YthlbplmghjaeoacDoor
