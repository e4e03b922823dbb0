/- CN, CO, laid as one text. -/
import Derived.Test.YthlbplmghjaeoacDoorGCL
import Derived.Outline

/- Notes: what a single cell and a pair find, by the model. -/
namespace Go.Proofs.YthlbplmghjaeoacDoor
open Go.RowKit

set_option maxRecDepth 100000 in
set_option maxHeartbeats 1600000 in
theorem ruSingle_any (l : List UInt8) (W H : Nat) (cells : List UInt8) (hB : Grd l W H cells) (c : Nat) (hc : c < cells.length) (ho : opB cells c = true) (w : World) (hl : l.length ≤ 1048576) :
    Calls Tryd.prog 61 #[.string ⟨l.toArray⟩, .int .i64 c] w fun e w' => ∃ a1 c1 a2 c2, e = .returned (.tuple #[.slice a1 (singL (nrS cells W c 63) (restM cells W c)).1.length c1, .slice a2 (singL (nrS cells W c 63) (restM cells W c)).2.length c2])
      ∧ Owns w' w.heap.size 3 (.slice a1 (singL (nrS cells W c 63) (restM cells W c)).1.length c1) (nats (singL (nrS cells W c 63) (restM cells W c)).1) ∧ Owns w' w.heap.size 3 (.slice a2 (singL (nrS cells W c 63) (restM cells W c)).2.length c2) (nats (singL (nrS cells W c 63) (restM cells W c)).2) ∧ Below w.heap.size w w' := by
  have HRR := Lib.hid (fun w => ruRest_any l W H cells hB c hc ho w hl)
  have HNR := Lib.hid (fun w => ruNear_any l W H cells hB c hc 63 63 rfl w hl)
  have h64 := hB.n64
  have hr := rest_range cells W c h64
  have hnl := nrS_le cells W c 63
  have HS : Hid (singL (nrS cells W c 63) (restM cells W c) = if restM cells W c = 0 then ([], nrS cells W c 63) else if restM cells W c = ((nrS cells W c 63).length : Int) then (nrS cells W c 63, []) else ([], [])) := rfl
  generalize singL (nrS cells W c 63) (restM cells W c) = P at *
  generalize nrS cells W c 63 = nk at *
  generalize restM cells W c = rk at *
  clear hB
  by_cases h0 : rk = 0
  · subst h0
    rw [if_pos rfl] at HS
    go_enter Tryd.func61, Tryd.ntmps61
    go_wp2_with fail
    refine (HNR.out _).mono ?_
    rintro e w1 ⟨a, cap, rfl, hown, hb⟩
    have s1 := hb.size
    go_wp2_with fail
    refine (HRR.out _).mono ?_
    rintro e w2 ⟨rfl, hb2⟩
    go_wp2_with fail
    go_ret2
    exact ⟨none, 0, a, cap, by rw [HS.out]; rfl, by rw [HS.out]; exact Owns.nil _ _ _, by rw [HS.out]; exact hown.later hb2, hb.trans (hb2.mono s1)⟩
  · have e0 : ((rk : Int) == 0) = false := by simp [h0]
    rw [if_neg h0] at HS
    by_cases h1 : rk = (nk.length : Int)
    · have e1 : ((rk : Int) == (nk.length : Int)) = true := by simp [h1]
      rw [if_pos h1] at HS
      clear h0 h1
      go_enter Tryd.func61, Tryd.ntmps61
      go_wp2_with fail
      refine (HNR.out _).mono ?_
      rintro e w1 ⟨a, cap, rfl, hown, hb⟩
      have s1 := hb.size
      go_wp2_with fail
      refine (HRR.out _).mono ?_
      rintro e w2 ⟨rfl, hb2⟩
      go_wp2_with fail
      go_ret2
      exact ⟨a, cap, none, 0, by rw [HS.out]; rfl, by rw [HS.out]; exact hown.later hb2, by rw [HS.out]; exact Owns.nil _ _ _, hb.trans (hb2.mono s1)⟩
    · have e1 : ((rk : Int) == (nk.length : Int)) = false := by simp [h1]
      rw [if_neg h1] at HS
      clear h0 h1
      go_enter Tryd.func61, Tryd.ntmps61
      go_wp2_with fail
      refine (HNR.out _).mono ?_
      rintro e w1 ⟨a, cap, rfl, hown, hb⟩
      have s1 := hb.size
      go_wp2_with fail
      refine (HRR.out _).mono ?_
      rintro e w2 ⟨rfl, hb2⟩
      go_wp2_with fail
      go_ret2
      exact ⟨none, 0, none, 0, by rw [HS.out]; rfl, by rw [HS.out]; exact Owns.nil _ _ _, by rw [HS.out]; exact Owns.nil _ _ _, hb.trans (hb2.mono s1)⟩

theorem filt_drop (p : Nat → Bool) (N : List Nat) (k : Nat) (hk : k < N.length) : (N.drop k).filter p = if p N[k] = true then N[k] :: (N.drop (k + 1)).filter p else (N.drop (k + 1)).filter p := by
  rw [List.drop_eq_getElem_cons hk, List.filter_cons]

set_option maxRecDepth 100000 in
set_option maxHeartbeats 3200000 in
theorem ruPair_any (l : List UInt8) (W H : Nat) (cells : List UInt8) (hB : Grd l W H cells) (x y : Nat) (hx : x < cells.length) (hy : y < cells.length) (hox : opB cells x = true) (hoy : opB cells y = true) (w : World) (hl : l.length ≤ 1048576) :
    Calls Tryd.prog 25 #[.string ⟨l.toArray⟩, .int .i64 x, .int .i64 y] w fun e w' => ∃ a1 c1 a2 c2, e = .returned (.tuple #[.slice a1 (pairAt cells W (nrS cells W x 63) (restM cells W x) y).1.length c1, .slice a2 (pairAt cells W (nrS cells W x 63) (restM cells W x) y).2.length c2])
      ∧ Owns w' w.heap.size 3 (.slice a1 (pairAt cells W (nrS cells W x 63) (restM cells W x) y).1.length c1) (nats (pairAt cells W (nrS cells W x 63) (restM cells W x) y).1) ∧ Owns w' w.heap.size 3 (.slice a2 (pairAt cells W (nrS cells W x 63) (restM cells W x) y).2.length c2) (nats (pairAt cells W (nrS cells W x 63) (restM cells W x) y).2) ∧ Below w.heap.size w w' := by
  have HRX := Lib.hid (fun w => ruRest_any l W H cells hB x hx hox w hl)
  have HRY := Lib.hid (fun w => ruRest_any l W H cells hB y hy hoy w hl)
  have HNX := Lib.hid (fun w => ruNear_any l W H cells hB x hx 63 63 rfl w hl)
  have HNY := Lib.hid (fun w => ruNear_any l W H cells hB y hy 63 63 rfl w hl)
  have h64 := hB.n64
  have hrx := rest_range cells W x h64
  have hry := rest_range cells W y h64
  have hnx := nrS_le cells W x 63
  have hny := nrS_le cells W y 63
  have HS : Hid (pairAt cells W (nrS cells W x 63) (restM cells W x) y = if ((nrS cells W x 63).filter fun z => !decide (z ∈ nrS cells W y 63)) = [] then
    (if restM cells W y - restM cells W x = 0 then ([], (nrS cells W y 63).filter fun z => !decide (z ∈ nrS cells W x 63)) else if restM cells W y - restM cells W x = (((nrS cells W y 63).filter fun z => !decide (z ∈ nrS cells W x 63)).length : Int) then ((nrS cells W y 63).filter fun z => !decide (z ∈ nrS cells W x 63), []) else ([], []))
    else ([], [])) := rfl
  generalize pairAt cells W (nrS cells W x 63) (restM cells W x) y = P at *
  generalize nrS cells W x 63 = na at *
  generalize nrS cells W y 63 = nb at *
  generalize restM cells W x = rx at *
  generalize restM cells W y = ry at *
  clear hB hox hoy
  go_enter Tryd.func25, Tryd.ntmps25
  go_wp2_with fail
  refine (HNX.out _).mono ?_
  rintro e w1 ⟨aa, ca, rfl, howna, hb1⟩
  have s1 := hb1.size
  go_wp2_with fail
  refine (HNY.out _).mono ?_
  rintro e w2 ⟨ab, cb, rfl, hownb, hb2⟩
  have s2 := hb2.size
  have hata := (howna.later hb2).at
  have hatb := hownb.at
  have hbw := hb1.trans (hb2.mono s1)
  clear howna hb1 hb2 HNX HNY
  go_wp2_with fail
  go_loop [23] (fun i => ∃ k : Nat, k ≤ na.length ∧ i = .int .i64 k ∧ Hid ((na.filter fun z => !decide (z ∈ nb)) = (na.drop k).filter fun z => !decide (z ∈ nb))) (fun i => na.length - (intOf i).toNat)
  case atStart => exact ⟨0, Nat.zero_le _, rfl, rfl⟩
  case round =>
    obtain ⟨k, hk, rfl, hF⟩ := hrel
    by_cases hlt : k < na.length
    · have HD := Lib.hid (filt_drop (fun z => !decide (z ∈ nb)) na k hlt)
      obtain ⟨b, off, he, hcell⟩ := nats_at hata k hlt
      subst he
      have hlh := fun w h => l1HasN_any nb na[k] ab cb w h (by omega)
      generalize na[k] = z at *
      by_cases hin : z ∈ nb
      · rw [show decide (z ∈ nb) = true by simpa using hin] at hlh
        have HN : Hid ((na.filter fun z => !decide (z ∈ nb)) = (na.drop (k + 1)).filter fun z => !decide (z ∈ nb)) := by
          rw [Hid, hF.out, HD.out, if_neg (by simp [hin])]
        have HLH := Lib.hid (hlh _ hatb)
        clear hin hlh
        go_wp2_with (go_at_call 47; refine HLH.out.mono ?_; rintro e w' ⟨rfl, rfl⟩)
        go_round
        case rel => exact ⟨k + 1, by omega, by go_num, HN.out⟩
        case measure => simp [intOf]; omega
      · rw [show decide (z ∈ nb) = false by simpa using hin] at hlh
        have HN : Hid (P = ([], [])) := by
          rw [Hid, HS.out, if_neg]
          rw [hF.out, HD.out, if_pos (by simp [hin])]
          simp
        have HLH := Lib.hid (hlh _ hatb)
        clear hin hlh
        go_wp2_with (go_at_call 47; refine HLH.out.mono ?_; rintro e w' ⟨rfl, rfl⟩)
        go_ret2
        exact ⟨none, 0, none, 0, by rw [HN.out]; rfl, by rw [HN.out]; exact Owns.nil _ _ _, by rw [HN.out]; exact Owns.nil _ _ _, hbw⟩
    · obtain rfl : k = na.length := by omega
      have HA : Hid ((na.filter fun z => !decide (z ∈ nb)) = []) := by rw [Hid, hF.out, List.drop_length]; rfl
      rw [if_pos HA.out] at HS
      clear hF
      go_wp2_with fail
      go_loopw [12, 34] (fun v i wr => ∃ k : Nat, k ≤ nb.length ∧ i = .int .i64 k ∧ Owns wr w2.heap.size 3 v (nats ((nb.take k).filter fun z => !decide (z ∈ na))) ∧ Below w2.heap.size w2 wr) (fun _ i _ => nb.length - (intOf i).toNat)
      case atStart => exact ⟨0, Nat.zero_le _, rfl, Owns.nil _ _ _, Below.refl _ _⟩
      case round =>
        obtain ⟨k, hk, rfl, hown, hbr⟩ := hrel
        have sr := hbr.size
        by_cases hlt : k < nb.length
        · have HST := Lib.hid (filter_step (p := fun z => !decide (z ∈ na)) nb k hlt)
          obtain ⟨b, off, he, hcell⟩ := nats_at (hatb.later rfl hbr) k hlt
          subst he
          have hfl : ((nb.take k).filter fun z => !decide (z ∈ na)).length ≤ 64 := Nat.le_trans (List.length_filter_le _ _) (by simp; omega)
          have hlh := fun w h => l1HasN_any na nb[k] aa ca w h (by omega)
          generalize nb[k] = z at *
          by_cases hin : z ∈ na
          · rw [show decide (z ∈ na) = true by simpa using hin] at hlh
            have HI : Hid (¬ (!decide (z ∈ na)) = true) := by simp [Hid, hin]
            have HLH := Lib.hid (hlh _ (hata.later rfl hbr))
            clear hin hlh
            go_wp2_with (go_at_call 47; refine HLH.out.mono ?_; rintro e w' ⟨rfl, rfl⟩)
            go_roundw
            case rel => exact ⟨k + 1, by omega, by go_num, by rw [HST.out, if_neg HI.out, List.append_nil]; exact hown, hbr⟩
            case measure => simp [intOf]; omega
          · rw [show decide (z ∈ na) = false by simpa using hin] at hlh
            have HI : Hid ((!decide (z ∈ na)) = true) := by simp [Hid, hin]
            have HLH := Lib.hid (hlh _ (hata.later rfl hbr))
            clear hin hlh
            go_wp2_with (first | (at_builtin; refine wpList_app1 rfl _ _ _ rfl _ _ _ _ elemInt _ _ _ _ rfl rfl rfl hown rfl (by simp; omega) sr (by simp; omega) ?_; intro v1 w3 hown1 hb3 hs3) | (go_at_call 47; refine HLH.out.mono ?_; rintro e w' ⟨rfl, rfl⟩))
            rw [nats_snoc] at hown1
            go_roundw
            case rel => exact ⟨k + 1, by omega, by go_num, by rw [HST.out, if_pos HI.out]; exact hown1, hbr.trans hb3⟩
            case measure => simp [intOf]; omega
        · obtain rfl : k = nb.length := by omega
          rw [List.take_length] at hown
          have hol : (nb.filter fun z => !decide (z ∈ na)).length ≤ 64 := Nat.le_trans (List.length_filter_le _ _) (by omega)
          generalize (nb.filter fun z => !decide (z ∈ na)) = o at *
          obtain ⟨ao, co, hv⟩ := hown.shape
          simp only [nats_length] at hv
          subst hv
          have hbx := hbw.trans (hbr.mono hbw.size)
          have sx := hbx.size
          have HBX := Lib.hid hbx
          clear hbx hbw
          by_cases h0 : ry - rx = 0
          · have e0 : ((ry - rx : Int) == 0) = true := by simp [h0]
            rw [if_pos h0] at HS
            clear h0
            go_wp2_with fail
            refine (HRY.out _).mono ?_
            rintro e w5 ⟨rfl, hb5⟩
            have s5 := hb5.size
            go_wp2_with fail
            refine (HRX.out _).mono ?_
            rintro e w6 ⟨rfl, hb6⟩
            have hb56 := hb5.trans (hb6.mono s5)
            go_wp2_with fail
            go_ret2
            exact ⟨none, 0, ao, co, by rw [HS.out]; rfl, by rw [HS.out]; exact Owns.nil _ _ _, by rw [HS.out]; exact (hown.later hb56).mono (by omega), HBX.out.trans (hb56.mono sx)⟩
          · have e0 : ((ry - rx : Int) == 0) = false := by simp [h0]
            rw [if_neg h0] at HS
            by_cases h1 : ry - rx = (o.length : Int)
            · have e1 : ((ry - rx : Int) == (o.length : Int)) = true := by simp [h1]
              rw [if_pos h1] at HS
              clear h0 h1
              go_wp2_with fail
              refine (HRY.out _).mono ?_
              rintro e w5 ⟨rfl, hb5⟩
              have s5 := hb5.size
              go_wp2_with fail
              refine (HRX.out _).mono ?_
              rintro e w6 ⟨rfl, hb6⟩
              have hb56 := hb5.trans (hb6.mono s5)
              go_wp2_with fail
              go_ret2
              exact ⟨ao, co, none, 0, by rw [HS.out]; rfl, by rw [HS.out]; exact (hown.later hb56).mono (by omega), by rw [HS.out]; exact Owns.nil _ _ _, HBX.out.trans (hb56.mono sx)⟩
            · have e1 : ((ry - rx : Int) == (o.length : Int)) = false := by simp [h1]
              rw [if_neg h1] at HS
              clear h0 h1
              go_wp2_with fail
              refine (HRY.out _).mono ?_
              rintro e w5 ⟨rfl, hb5⟩
              have s5 := hb5.size
              go_wp2_with fail
              refine (HRX.out _).mono ?_
              rintro e w6 ⟨rfl, hb6⟩
              have hb56 := hb5.trans (hb6.mono s5)
              go_wp2_with fail
              go_ret2
              exact ⟨none, 0, none, 0, by rw [HS.out]; rfl, by rw [HS.out]; exact Owns.nil _ _ _, by rw [HS.out]; exact Owns.nil _ _ _, HBX.out.trans (hb56.mono sx)⟩
end Go.Proofs.YthlbplmghjaeoacDoor

/- Notes: the first single cell that finds something, by the model. -/
namespace Go.Proofs.YthlbplmghjaeoacDoor
open Go.RowKit

/-- The open cells from a number on. -/
def opR (cells : List UInt8) (k : Nat) : List Nat := (List.range' k (cells.length - k)).filter (opB cells)
theorem opR_yes {cells : List UInt8} {k : Nat} (hk : k < cells.length) (h : opB cells k = true) : opR cells k = k :: opR cells (k + 1) := by
  rw [opR, show cells.length - k = (cells.length - (k + 1)) + 1 by omega, List.range'_succ, List.filter_cons, if_pos h, opR]
theorem opR_no {cells : List UInt8} {k : Nat} (hk : k < cells.length) (h : opB cells k = false) : opR cells k = opR cells (k + 1) := by
  rw [opR, show cells.length - k = (cells.length - (k + 1)) + 1 by omega, List.range'_succ, List.filter_cons, if_neg (by rw [h]; decide), opR]
theorem opR_zero (cells : List UInt8) : opR cells 0 = opens cells := by rw [opR, opens, List.range_eq_range', Nat.sub_zero]
theorem opR_end (cells : List UInt8) : opR cells cells.length = [] := by rw [opR, Nat.sub_self]; rfl
theorem fst_fnd (cells : List UInt8) (W : Nat) (na : List Nat) (ra : Int) : ∀ ks : List Nat, fnd (fstM cells W na ra ks).2 = false → (fstM cells W na ra ks).1 = 0
  | [], _ => rfl
  | k :: r, h => by
    unfold fstM at h ⊢
    by_cases hf : fnd (pairAt cells W na ra k) = true
    · rw [if_pos hf] at h; rw [hf] at h; cases h
    · rw [if_neg hf] at h ⊢
      exact fst_fnd cells W na ra r h
theorem pairAt_sing (cells : List UInt8) (W k : Nat) : pairAt cells W [] 0 k = singL (nrS cells W k 63) (restM cells W k) := by
  rw [pairAt, pair_sing, Int.sub_zero]
theorem fnd_len (p : List Nat × List Nat) : fnd p = decide ((p.1.length : Int) + (p.2.length : Int) > 0) := by
  obtain ⟨a, b⟩ := p
  cases a <;> cases b <;> simp [fnd] <;> omega

set_option maxRecDepth 100000 in
set_option maxHeartbeats 3200000 in
theorem ruFirst_single (l : List UInt8) (W H : Nat) (cells : List UInt8) (hB : Grd l W H cells) (hsg : ∀ c ∈ cells, noteSign c = true) (w : World) (hl : l.length ≤ 1048576) :
    Calls Tryd.prog 33 #[.string ⟨l.toArray⟩, .bool false] w fun e w' => e = .returned (.tuple #[.int .i64 ((fstM cells W [] 0 (opens cells)).1 : Nat), .int .i64 ((fstM cells W [] 0 (opens cells)).1 : Nat), .bool (fnd (fstM cells W [] 0 (opens cells)).2)]) ∧ Below w.heap.size w w' := by
  have hbc := fun w => boCells_any l w hl
  rw [hB.cs] at hbc
  have h64 := hB.n64
  have HSI := Lib.hid (fun k hk ho w => ruSingle_any l W H cells hB k hk ho w hl)
  rw [← opR_zero]
  clear hB
  go_enter Tryd.func33, Tryd.ntmps33
  go_wp2_with fail
  refine (hbc _).mono ?_
  rintro e w1 ⟨rfl, rfl⟩
  go_wp2_with fail
  have hI : (w.iter ⟨cells.toArray⟩ 0).heap[w.heap.size]? = some (.stringIter ⟨cells.toArray⟩ 0) := World.iter_heap w _ _
  have hbi : Below w.heap.size w (w.iter ⟨cells.toArray⟩ 0) := (Below.refl _ _).alloc (Nat.le_refl _) _
  have hsi : w.heap.size < (w.iter ⟨cells.toArray⟩ 0).heap.size := by simp [World.iter]
  generalize w.iter ⟨cells.toArray⟩ 0 = w4 at *
  generalize hII : w.heap.size = I at *
  have HII := Lib.hid hII
  clear hII hbc
  go_loopw [] (fun wr => ∃ k : Nat, k ≤ cells.length ∧ Hid (wr.heap[I]? = some (.stringIter ⟨cells.toArray⟩ k)) ∧ Hid (fstM cells W [] 0 (opR cells 0) = fstM cells W [] 0 (opR cells k)) ∧ Below I w4 wr) (fun wr => cells.length - wr.iterPos I)
  case atStart => exact ⟨0, Nat.zero_le _, hI, rfl, Below.refl _ _⟩
  case round =>
    obtain ⟨k, hk, hIr, hR, hb⟩ := hrel
    have hIlt := block_lt hIr.out
    by_cases hlt : k < cells.length
    · have hasc := note_ascii (hsg _ (List.getElem_mem hlt))
      have hnx := fun ty => Lib.run_next_ascii_at (P := Tryd.prog) wr I ⟨cells.toArray⟩ k ty hIr.out (by simpa [ByteArray.size] using hlt) (by simpa using hasc)
      have hpos := Lib.hid (iterPos_at hIr.out)
      have i1 := iterAt_at hIlt ⟨cells.toArray⟩ (k + 1)
      have i2 := iterAt_below wr I ⟨cells.toArray⟩ (k + 1)
      have hgd : cells.getD k 0 = cells[k] := by simp [List.getD, hlt]
      have hro := fun w => ruOpen_any cells[k] w
      have hop : opB cells k = digSign cells[k] := by rw [opB, hgd]
      rw [← hop] at hro
      clear hasc hgd hop
      cases ho : opB cells k with
      | false =>
        have HST := Lib.hid (opR_no hlt ho)
        rw [ho] at hro
        have HRO := Lib.hid hro
        clear ho hro
        go_wp2_with fail
        clear hnx
        generalize wr.iterAt I ⟨cells.toArray⟩ (k + 1) = wi at *
        refine (HRO.out _).mono ?_
        rintro e w5 ⟨rfl, rfl⟩
        have ip := Lib.hid (iterPos_at i1)
        have I1 := Lib.hid i1
        clear i1
        go_wp2_with fail
        go_roundw
        case rel => exact ⟨k + 1, by omega, I1, by rw [Hid, hR.out, HST.out], hb.trans i2⟩
        case measure => rw [hpos.out, ip.out]; omega
      | true =>
        have HST : Hid (fstM cells W [] 0 (opR cells k) = if fnd (pairAt cells W [] 0 k) = true then (k, pairAt cells W [] 0 k) else fstM cells W [] 0 (opR cells (k + 1))) := by rw [Hid, opR_yes hlt ho, fstM]
        have HSK := Lib.hid (HSI.out k hlt ho)
        rw [← pairAt_sing] at HSK
        rw [ho] at hro
        have HRO := Lib.hid hro
        have hfl := fnd_len (pairAt cells W [] 0 k)
        have hcl := pairL_cel (na := []) (restM cells W k - 0) (Cel.near cells W k 63)
        have hl1 : (pairAt cells W [] 0 k).1.length ≤ cells.length := hcl.1.len
        have hl2 : (pairAt cells W [] 0 k).2.length ≤ cells.length := hcl.2.len
        clear ho hro hcl
        generalize pairAt cells W [] 0 k = P at *
        go_wp2_with fail
        clear hnx
        generalize wr.iterAt I ⟨cells.toArray⟩ (k + 1) = wi at *
        refine (HRO.out _).mono ?_
        rintro e w5 ⟨rfl, rfl⟩
        have HB2 := Lib.hid (hb.trans i2)
        go_wp2_with fail
        refine (HSK.out _).mono ?_
        rintro e w6 ⟨a1, c1, a2, c2, rfl, _, _, hb6⟩
        have s6 := hb6.size
        have hs2 := HB2.out.size
        have i5 := (hb6.block I (by have := block_lt i1; omega)).trans i1
        have ip := Lib.hid (iterPos_at i5)
        have I5 := Lib.hid i5
        have HB6 := Lib.hid (HB2.out.trans (hb6.mono (by have := block_lt i1; omega)))
        clear i5 hb6 i1
        cases hf : fnd P with
        | true =>
          rw [hf] at hfl HST
          have HFIN : Hid (fstM cells W [] 0 (opR cells 0) = (k, P)) := by rw [Hid, hR.out, HST.out]; rfl
          have HFP := Lib.hid hf
          have hd : decide ((P.1.length : Int) + (P.2.length : Int) > 0) = true := hfl.symm
          clear hfl hf
          go_wp2_with fail
          go_ret3
          exact ⟨by rw [HFIN.out, HFP.out]; rfl, by rw [HII.out]; exact hbi.trans HB6.out⟩
        | false =>
          rw [hf] at hfl HST
          have HN : Hid (fstM cells W [] 0 (opR cells 0) = fstM cells W [] 0 (opR cells (k + 1))) := by rw [Hid, hR.out, HST.out]; rfl
          have hd : decide ((P.1.length : Int) + (P.2.length : Int) > 0) = false := hfl.symm
          clear hfl hf
          go_wp2_with fail
          go_roundw
          case rel => exact ⟨k + 1, by omega, I5, HN.out, HB6.out⟩
          case measure => rw [hpos.out, ip.out]; omega
    · obtain rfl : k = cells.length := by omega
      have hnx := fun ty => Lib.run_next_end_at (P := Tryd.prog) wr I ⟨cells.toArray⟩ cells.length ty hIr.out (by simp [ByteArray.size])
      have HFIN : Hid (fstM cells W [] 0 (opR cells 0) = (0, ([], []))) := by rw [Hid, hR.out, opR_end]; rfl
      go_wp2_with fail
      go_ret3
      exact ⟨by rw [HFIN.out]; rfl, by rw [HII.out]; exact hbi.trans hb⟩
end Go.Proofs.YthlbplmghjaeoacDoor
