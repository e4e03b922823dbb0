/- Strips: the most cells beside each other that are surely free. -/
import Derived.Test.YtajabfegeeepeaaM4
namespace Go.Proofs.Ytajabfegeeepeaa
open Go.RowKit

/-- One sign more: the most so far, and the free ones at the end. -/
def lfP (p : Nat × Nat) (c : UInt8) : Nat × Nat := (max p.1 (if c = 46 then p.2 + 1 else 0), if c = 46 then p.2 + 1 else 0)
def lfS (xs : List UInt8) : Nat × Nat := xs.foldl lfP (0, 0)
theorem lfS_next (xs : List UInt8) {k : Nat} (h : k < xs.length) : lfS (xs.take (k + 1)) = lfP (lfS (xs.take k)) xs[k] := by
  rw [List.take_succ_eq_append_getElem h, lfS, List.foldl_append]; rfl
theorem lfS_le : ∀ (xs : List UInt8) (k : Nat), (lfS (xs.take k)).1 ≤ k ∧ (lfS (xs.take k)).2 ≤ k
  | xs, 0 => by simp [lfS]
  | xs, k + 1 => by
    have ih := lfS_le xs k
    by_cases h : k < xs.length
    · rw [lfS_next xs h]
      obtain ⟨h1, h2⟩ := ih
      generalize lfS (xs.take k) = p at *
      obtain ⟨m, r⟩ := p
      simp only at h1 h2
      by_cases hc : xs[k] = 46
      · rw [lfP, if_pos hc]
        simp only
        omega
      · rw [lfP, if_neg hc]
        simp only
        omega
    · have e1 : xs.take (k + 1) = xs := List.take_of_length_le (by omega)
      have e2 : xs.take k = xs := List.take_of_length_le (by omega)
      rw [e2] at ih
      rw [e1]
      omega
def lfV (l : List UInt8) : Nat := (lfS (sureV l)).1
theorem suM_ascii (s : List UInt8) : ∀ c ∈ suM s, c = 46 ∨ c = 42 ∨ c = 63 := by
  intro c hc
  obtain ⟨k, _, rfl⟩ := List.mem_map.1 hc
  exact suC_ascii s k
theorem sureV_ascii (l : List UInt8) : ∀ c ∈ sureV l, c = 46 ∨ c = 42 ∨ c = 63 := by
  intro c hc
  unfold sureV at hc
  split at hc
  · exact suM_ascii l c hc
  · cases hc
theorem sureV_len (l : List UInt8) : (sureV l).length ≤ l.length := by
  unfold sureV
  split
  · rw [suM, suK_length]; exact Nat.le_refl _
  · exact Nat.zero_le _
theorem free_int (c : UInt8) : ((c.toNat : Int) == 46) = decide (c = 46) := by
  have hx : ∀ n : Fin 256, (((UInt8.ofNat n.val).toNat : Int) == 46) = decide (UInt8.ofNat n.val = 46) := by decide +kernel
  have := hx ⟨c.toNat, c.toNat_lt⟩
  simpa using this

set_option maxRecDepth 100000 in
set_option maxHeartbeats 3200000 in
theorem iLongestFree_any (l : List UInt8) (w : World) (hl : l.length ≤ 1048576) :
    Calls Try.prog 25 #[.string ⟨l.toArray⟩] w fun e w' => e = .returned (.tuple #[.int .i64 (lfV l : Nat), .bool (sureB l)]) ∧ Below w.heap.size w w' := by
  have HSU := Lib.hid fun w => iSureStrip_any l w hl
  have HV : Hid (lfV l = (lfS (sureV l)).1) := rfl
  have hasc := Lib.hid (sureV_ascii l)
  have hxl : (sureV l).length ≤ 1048576 := Nat.le_trans (sureV_len l) hl
  generalize lfV l = V at *
  generalize sureB l = ok at *
  generalize sureV l = xs at *
  go_enter Try.func25, Try.ntmps25
  go_wp2_with fail
  refine (HSU.out _).mono ?_
  rintro e w1 ⟨rfl, hb1⟩
  go_wp2_with fail
  have hI : (w1.iter ⟨xs.toArray⟩ 0).heap[w1.heap.size]? = some (.stringIter ⟨xs.toArray⟩ 0) := World.iter_heap w1 _ _
  have hb2 : Below w.heap.size w (w1.iter ⟨xs.toArray⟩ 0) := hb1.trans (((Below.refl _ _).alloc (Nat.le_refl _) _).mono hb1.size)
  have hws := hb1.size
  generalize w1.iter ⟨xs.toArray⟩ 0 = w2 at *
  generalize hII : w1.heap.size = I at *
  clear hII hb1 HSU
  go_loopw [6, 7] (fun o r wr => ∃ k : Nat, k ≤ xs.length ∧ o = .int .i64 ((lfS (xs.take k)).1 : Nat) ∧ r = .int .i64 ((lfS (xs.take k)).2 : Nat) ∧ Hid (wr.heap[I]? = some (.stringIter ⟨xs.toArray⟩ k)) ∧ Below w.heap.size w wr) (fun _ _ wr => xs.length - wr.iterPos I)
  case atStart => exact ⟨0, Nat.zero_le _, rfl, rfl, hI, hb2⟩
  case round =>
    clear hI hb2
    obtain ⟨k, hk, rfl, rfl, hIr, hb⟩ := hrel
    have hIlt := block_lt hIr.out
    by_cases hlt : k < xs.length
    · have h3 := hasc.out _ (List.getElem_mem hlt)
      have hch : xs[k].toNat < 128 := by rcases h3 with h | h | h <;> rw [h] <;> decide
      have hnx := fun ty => Lib.run_next_ascii_at (P := Try.prog) wr I ⟨xs.toArray⟩ k ty hIr.out (by simpa [ByteArray.size] using hlt) (by simpa using hch)
      have hpos := Lib.hid (iterPos_at hIr.out)
      have i1 := iterAt_at hIlt ⟨xs.toArray⟩ (k + 1)
      have i2 := iterAt_below wr I ⟨xs.toArray⟩ (k + 1)
      have hbi : Below w.heap.size w (wr.iterAt I ⟨xs.toArray⟩ (k + 1)) := hb.trans (i2.mono hws)
      have hnxt := Lib.hid (lfS_next xs hlt)
      obtain ⟨hm, hr⟩ := lfS_le xs k
      have hfi := free_int xs[k]
      generalize lfS (xs.take k) = p at *
      obtain ⟨m, r⟩ := p
      simp only at hm hr
      clear h3 hch i2
      by_cases h46 : xs[k] = 46
      · rw [decide_eq_true h46] at hfi
        have hst : Hid (lfS (xs.take (k + 1)) = (max m (r + 1), r + 1)) := by rw [Hid, hnxt.out, lfP, if_pos h46]
        clear h46
        go_wp2_with fail
        clear hnx
        generalize wr.iterAt I ⟨xs.toArray⟩ (k + 1) = wi at *
        have ip := Lib.hid (iterPos_at i1)
        have I1 := Lib.hid i1
        clear i1
        have e1 : max (m : Int) ((r : Int) + 1) = ((max m (r + 1) : Nat) : Int) := by omega
        have e2 : (r : Int) + 1 = ((r + 1 : Nat) : Int) := by omega
        go_roundw
        case rel => exact ⟨k + 1, by omega, by rw [hst.out, e1], by rw [hst.out, e2], I1, hbi⟩
        case measure => rw [hpos.out, ip.out]; omega
      · rw [decide_eq_false h46] at hfi
        have hst : Hid (lfS (xs.take (k + 1)) = (m, 0)) := by rw [Hid, hnxt.out, lfP, if_neg h46]; simp
        clear h46
        have e0 : max (m : Int) 0 = (m : Int) := by omega
        go_wp2_with fail
        clear hnx
        generalize wr.iterAt I ⟨xs.toArray⟩ (k + 1) = wi at *
        have ip := Lib.hid (iterPos_at i1)
        have I1 := Lib.hid i1
        clear i1
        go_roundw
        case rel => exact ⟨k + 1, by omega, by rw [hst.out], by rw [hst.out]; rfl, I1, hbi⟩
        case measure => rw [hpos.out, ip.out]; omega
    · obtain rfl : k = xs.length := by omega
      have hnx := fun ty => Lib.run_next_end_at (P := Try.prog) wr I ⟨xs.toArray⟩ xs.length ty hIr.out (by simp [ByteArray.size])
      rw [List.take_length]
      go_wp2_with fail
      go_ret2
      exact ⟨by rw [HV.out]; rfl, hb⟩

theorem mostL (a b : Int) (w : World) :
    Calls Try.prog 55 #[.int .i64 a, .int .i64 b] w fun e w' => e = .returned (.int .i64 (if b < a then a else b)) ∧ w' = w := by
  by_cases h : b < a
  · rw [if_pos h]
    go_enter Try.func55, Try.ntmps55
    go_wp2_with fail
    go_ret
    exact ⟨rfl, rfl⟩
  · rw [if_neg h]
    go_enter Try.func55, Try.ntmps55
    go_wp2_with fail
    go_ret
    exact ⟨rfl, rfl⟩
set_option maxRecDepth 100000 in
set_option maxHeartbeats 3200000 in
theorem sLongestFree_any (l : List UInt8) (w : World) (hl : l.length ≤ 1048576) :
    Calls Try.prog 24 #[.string ⟨l.toArray⟩] w fun e w' => e = .returned (.tuple #[.int .i64 (lfV l : Nat), .bool (sureB l)]) ∧ Below w.heap.size w w' := by
  have hgd := fun w => stGood_any l w hl
  have HV : Hid (lfV l = (lfS (sureV l)).1) := rfl
  cases hg : stM l with
  | false =>
    rw [hg] at hgd
    have HG := Lib.hid hgd
    have e : sureB l = false := by rw [sureB, hg]; rfl
    have hv0 : lfV l = 0 := by rw [HV.out, sure_no e]; rfl
    rw [hv0, e]
    clear hgd hg e hv0
    go_enter Try.func24, Try.ntmps24
    go_wp2_with fail
    refine (HG.out _).mono ?_
    rintro e w1 ⟨rfl, hb1⟩
    go_wp2_with fail
    go_ret2
    exact ⟨rfl, hb1⟩
  | true =>
    have hn40 := (stM_facts hg).2.1
    have hall := fun w => stAll_nil l hg w
    rw [allC_nil hn40] at hall
    have HA := Lib.hid hall
    rw [hg] at hgd
    have HG := Lib.hid hgd
    have HSU := Lib.hid fun w => stSure_any l hg w
    have hsb : sureB l = !(allC l [] == 0) := by rw [sureB, hg]; rfl
    have hsv := sure_yes (l := l)
    have hsn := sure_no (l := l)
    have hasc := Lib.hid (suM_ascii l)
    have hsl : (suM l).length = l.length := by rw [suM, suK_length]
    generalize allC l [] = A at *
    by_cases h0 : A = 0
    · have e : sureB l = false := by rw [hsb, h0]; rfl
      have hz : ((A : Int) == 0) = true := by rw [h0]; rfl
      have hv0 : lfV l = 0 := by rw [HV.out, hsn e]; rfl
      rw [hv0, e]
      clear hgd hg e h0 hall hsb hsv hsn hv0 HV
      go_enter Try.func24, Try.ntmps24
      go_wp2_with fail
      refine (HG.out _).mono ?_
      rintro e w1 ⟨rfl, hb1⟩
      go_wp2_with fail
      refine (HA.out _).mono ?_
      rintro e w2 ⟨rfl, hb2⟩
      go_wp2_with fail
      go_ret2
      exact ⟨rfl, hb1.trans (hb2.mono hb1.size)⟩
    · have e : sureB l = true := by rw [hsb]; simpa using h0
      have hz : ((A : Int) == 0) = false := by rw [beq_eq_false_iff_ne]; omega
      have HV2 : Hid (lfV l = (lfS (suM l)).1) := by rw [Hid, HV.out, hsv e]
      have hxl : (suM l).length ≤ 40 := by omega
      rw [e]
      clear hgd hg e h0 hall hsb hsv hsn HV hsl
      generalize suM l = xs at *
      generalize lfV l = V at *
      go_enter Try.func24, Try.ntmps24
      go_wp2_with fail
      refine (HG.out _).mono ?_
      rintro e w1 ⟨rfl, hb1⟩
      go_wp2_with fail
      refine (HA.out _).mono ?_
      rintro e w2 ⟨rfl, hb2⟩
      go_wp2_with fail
      refine (HSU.out _).mono ?_
      rintro e w3 ⟨rfl, hb3⟩
      go_wp2_with fail
      have hb03 : Below w.heap.size w w3 := (hb1.trans (hb2.mono hb1.size)).trans (hb3.mono (by have := hb1.size; have := hb2.size; omega))
      have hI : (w3.iter ⟨xs.toArray⟩ 0).heap[w3.heap.size]? = some (.stringIter ⟨xs.toArray⟩ 0) := World.iter_heap w3 _ _
      have hb4 : Below w.heap.size w (w3.iter ⟨xs.toArray⟩ 0) := hb03.trans (((Below.refl _ _).alloc (Nat.le_refl _) _).mono hb03.size)
      have hws := hb03.size
      generalize w3.iter ⟨xs.toArray⟩ 0 = w4 at *
      generalize hII : w3.heap.size = I at *
      clear hII hb1 hb2 hb3 hb03 HSU HA HG
      go_loopw [5, 6] (fun o r wr => ∃ k : Nat, k ≤ xs.length ∧ o = .int .i64 ((lfS (xs.take k)).1 : Nat) ∧ r = .int .i64 ((lfS (xs.take k)).2 : Nat) ∧ Hid (wr.heap[I]? = some (.stringIter ⟨xs.toArray⟩ k)) ∧ Below w.heap.size w wr) (fun _ _ wr => xs.length - wr.iterPos I)
      case atStart => exact ⟨0, Nat.zero_le _, rfl, rfl, hI, hb4⟩
      case round =>
        clear hI hb4
        obtain ⟨k, hk, rfl, rfl, hIr, hb⟩ := hrel
        have hIlt := block_lt hIr.out
        by_cases hlt : k < xs.length
        · have h3 := hasc.out _ (List.getElem_mem hlt)
          have hch : xs[k].toNat < 128 := by rcases h3 with h | h | h <;> rw [h] <;> decide
          have hnx := fun ty => Lib.run_next_ascii_at (P := Try.prog) wr I ⟨xs.toArray⟩ k ty hIr.out (by simpa [ByteArray.size] using hlt) (by simpa using hch)
          have hpos := Lib.hid (iterPos_at hIr.out)
          have i1 := iterAt_at hIlt ⟨xs.toArray⟩ (k + 1)
          have i2 := iterAt_below wr I ⟨xs.toArray⟩ (k + 1)
          have hbi : Below w.heap.size w (wr.iterAt I ⟨xs.toArray⟩ (k + 1)) := hb.trans (i2.mono hws)
          have hnxt := Lib.hid (lfS_next xs hlt)
          obtain ⟨hm, hr⟩ := lfS_le xs k
          have hfi := free_int xs[k]
          have hne : ((xs[k].toNat : Int) != 46) = !((xs[k].toNat : Int) == 46) := rfl
          have hix := fun w => idxStrG xs k hlt w
          generalize lfS (xs.take k) = p at *
          obtain ⟨m, r⟩ := p
          simp only at hm hr
          clear h3 hch i2
          by_cases h46 : xs[k] = 46
          · rw [decide_eq_true h46] at hfi
            rw [hfi] at hne
            have hst : Hid (lfS (xs.take (k + 1)) = (max m (r + 1), r + 1)) := by rw [Hid, hnxt.out, lfP, if_pos h46]
            have HMO := Lib.hid fun w => mostL (m : Int) ((r : Int) + 1) w
            simp only [Bool.not_true] at hne
            clear h46
            go_wp2_with fail
            refine (HMO.out _).mono ?_
            rintro e w6 ⟨rfl, rfl⟩
            go_wp2_with fail
            clear hnx
            generalize wr.iterAt I ⟨xs.toArray⟩ (k + 1) = wi at *
            have ip := Lib.hid (iterPos_at i1)
            have I1 := Lib.hid i1
            clear i1
            have e2 : (r : Int) + 1 = ((r + 1 : Nat) : Int) := by omega
            go_roundw
            case rel => exact ⟨k + 1, by omega, by rw [hst.out]; congr 1; show _ = ((max m (r + 1) : Nat) : Int); split <;> omega, by rw [hst.out, e2], I1, hbi⟩
            case measure => rw [hpos.out, ip.out]; omega
          · rw [decide_eq_false h46] at hfi
            rw [hfi] at hne
            have hst : Hid (lfS (xs.take (k + 1)) = (m, 0)) := by rw [Hid, hnxt.out, lfP, if_neg h46]; simp
            have HMO := Lib.hid fun w => mostL (m : Int) 0 w
            simp only [Bool.not_false] at hne
            clear h46
            go_wp2_with fail
            refine (HMO.out _).mono ?_
            rintro e w6 ⟨rfl, rfl⟩
            go_wp2_with fail
            clear hnx
            generalize wr.iterAt I ⟨xs.toArray⟩ (k + 1) = wi at *
            have ip := Lib.hid (iterPos_at i1)
            have I1 := Lib.hid i1
            clear i1
            go_roundw
            case rel => exact ⟨k + 1, by omega, by rw [hst.out]; congr 1; show _ = (m : Int); split <;> omega, by rw [hst.out]; rfl, I1, hbi⟩
            case measure => rw [hpos.out, ip.out]; omega
        · obtain rfl : k = xs.length := by omega
          have hnx := fun ty => Lib.run_next_end_at (P := Try.prog) wr I ⟨xs.toArray⟩ xs.length ty hIr.out (by simp [ByteArray.size])
          rw [List.take_length]
          go_wp2_with fail
          go_ret2
          exact ⟨by rw [HV2.out]; rfl, hb⟩
end Go.Proofs.Ytajabfegeeepeaa
