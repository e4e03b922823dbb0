/- Two boards beside each other: the model. -/
import Derived.Test.YtndmkbkmfonefabDoorYS
import Derived.Outline
namespace Go.Proofs.YtndmkbkmfonefabDoor
open Go.RowKit

/-- What the model answers for two boards of one height. -/
theorem bes_same {l r : List UInt8} (hg1 : boGoodM l = true) (hg2 : boGoodM r = true) (hh : (splitB 47 l).length = (splitB 47 r).length) :
    boGoodM (Lib.join (besR (splitB 47 l) (splitB 47 r)) [47]) = besOK l r ∧ besM l r = (if besOK l r = true then Lib.join (besR (splitB 47 l) (splitB 47 r)) [47] else []) ∧ (∀ x ∈ splitB 47 l, x.length ≤ 8) ∧ (∀ x ∈ splitB 47 r, x.length ≤ 8) ∧ (splitB 47 l).length ≤ 8 := by
  have hA := Brd.of hg1
  have hB := Brd.of hg2
  obtain ⟨ra, la, sa⟩ := hA.rows
  obtain ⟨rb, lb, sb⟩ := hB.rows
  obtain ⟨ga1, ga2, _⟩ := hA.grid
  obtain ⟨gb1, gb2, _⟩ := hB.grid
  rw [← ra] at la sa
  rw [← rb] at lb sb
  have hpos := splitB_pos 47 l
  obtain ⟨m1, m2⟩ := besR_mem la lb sa sb
  have hlen : (besR (splitB 47 l) (splitB 47 r)).length = (splitB 47 l).length := by simp [besR, hh]
  refine ⟨?_, rfl, fun x hx => by rw [la x hx]; exact hA.w8, fun x hx => by rw [lb x hx]; exact hB.w8, hA.h8⟩
  rw [good_join _ _ (by intro h; rw [h] at hlen; simp at hlen; omega) m1 m2, hlen]
  have h1 := hA.w1
  have h2 := hA.h1
  have h3 := hA.h8
  simp only [besOK, hg1, hg2, ga1, gb1, ga2, gb2, hh, sizeOK, Bool.true_and, decide_true]
  rw [hh] at h2 h3
  by_cases q : headLen (splitB 47 l) + headLen (splitB 47 r) ≤ 8
  · simp [q, h2, h3]; omega
  · simp [q]

set_option maxRecDepth 100000 in
set_option maxHeartbeats 1600000 in
theorem sBeside_same (l r : List UInt8) (w : World) (hl : l.length ≤ 1048576) (hr : r.length ≤ 1048576) (hg1 : boGoodM l = true) (hg2 : boGoodM r = true) (hh : (splitB 47 l).length = (splitB 47 r).length) :
    Calls Tryd.prog 21 #[.string ⟨l.toArray⟩, .string ⟨r.toArray⟩] w fun e w' => e = .returned (.tuple #[.string ⟨(besM l r).toArray⟩, .bool (besOK l r)]) ∧ Below w.heap.size w w' := by
  obtain ⟨b1, b2, m1, m2, h8⟩ := bes_same hg1 hg2 hh
  have qa := fun w => boGood_any l w hl
  have qb := fun w => boGood_any r w hr
  have pa := fun w => l1Split_any l 47 _ rfl w hl
  have pb := fun w => l1Split_any r 47 _ rfl w hr
  have hpos := splitB_pos 47 l
  rw [hg1] at qa
  rw [hg2] at qb
  generalize splitB 47 l = A at *
  generalize splitB 47 r = B at *
  have B1 := Lib.hid b1
  have B2 := Lib.hid b2
  have M1 := Lib.hid m1
  have M2 := Lib.hid m2
  have hRl : (besR A B).length = A.length := by simp [besR, hh]
  have hRg : ∀ k (h : k < (besR A B).length) (h1 : k < A.length) (h2 : k < B.length), (besR A B)[k] = A[k] ++ B[k] := by
    intro k h h1 h2
    simp only [besR, List.getElem_zipWith]
  generalize besR A B = R at *
  have HG := Lib.hid hRg
  have HL := Lib.hid hRl
  have hd : ((A.length : Int) != (B.length : Int)) = false := by simp [hh]
  have HH := Lib.hid hh
  clear b1 b2 m1 m2 hRg hRl hg1 hg2 hh
  go_enter Tryd.func21, Tryd.ntmps21
  go_wp2_with fail
  refine (qa _).mono ?_
  rintro e w1 ⟨rfl, hb1⟩
  go_wp2_with fail
  refine (qb _).mono ?_
  rintro e w2 ⟨rfl, hb2⟩
  go_wp2_with fail
  refine (pa _).mono ?_
  rintro e w3 ⟨a1, c1, rfl, ho1, hb3⟩
  go_wp2_with fail
  refine (pb _).mono ?_
  rintro e w4 ⟨a2, c2, rfl, ho2, hb4⟩
  have hatA := (ho1.later hb4).at
  have hatB := ho2.at
  have s1 := hb1.size
  have s2 := hb2.size
  have s3 := hb3.size
  have s4 := hb4.size
  have hbw : Below w.heap.size w w4 := ((hb1.trans (hb2.mono (by omega))).trans (hb3.mono (by omega))).trans (hb4.mono (by omega))
  clear ho1 ho2 hb1 hb2 hb3 hb4 s1 s2 s3 s4 qa qb pa pb
  go_wp2_with fail
  go_loopw [8, 29] (fun o i wr => ∃ k : Nat, k ≤ A.length ∧ i = .int .i64 k ∧ Below w4.heap.size w4 wr ∧ ∃ acc : List UInt8, acc.length ≤ 17 * k ∧ o = .string ⟨acc.toArray⟩ ∧ Hid (Lib.join R [47] = acc ++ jnGo k (R.drop k))) (fun _ i _ => A.length - (intOf i).toNat)
  case atStart => exact ⟨0, Nat.zero_le _, rfl, Below.refl _ _, [], by simp, rfl, by simp [Hid, jnGo]⟩
  case round =>
    obtain ⟨k, hk, rfl, hbr, acc, hacc, rfl, hR⟩ := hrel
    by_cases hlt : k < A.length
    · have hltB : k < B.length := by have := HH.out; omega
      have hltR : k < R.length := by have := HL.out; omega
      obtain ⟨g1, o1, rfl, hc1⟩ := txts_at (hatA.later rfl hbr) k hlt
      obtain ⟨g2, o2, rfl, hc2⟩ := txts_at (hatB.later rfl hbr) k hltB
      have l1 := M1.out _ (List.getElem_mem hlt)
      have l2 := M2.out _ (List.getElem_mem hltB)
      have i1 : (k : Int) < (A.length : Int) := by omega
      have i2 : (k : Int) < (B.length : Int) := by omega
      have Ht : Hid (R.drop k = (A[k] ++ B[k]) :: R.drop (k + 1)) := by
        rw [Hid, List.drop_eq_getElem_cons hltR, HG.out k hltR hlt hltB]
      clear hltR
      have n1 : ¬ (9223372036854775807 < A[k].length + B[k].length) := by omega
      rcases Nat.eq_zero_or_pos k with h0 | h0
      · subst h0
        simp only [Nat.add_zero] at hc1 hc2
        have i3 : (0 : Int) < (A.length : Int) := by omega
        have i4 : (0 : Int) < (B.length : Int) := by omega
        have n2 : ¬ (9223372036854775807 < acc.length + (A[0].length + B[0].length)) := by omega
        go_wp2_with fail
        go_quiet (fail)
        go_wp2_with fail
        go_roundw
        case rel => exact ⟨0 + 1, by omega, by go_num, below_drewN hbr _, acc ++ (A[0] ++ B[0]), by simp; omega, by simp, by rw [Hid, hR.out, Ht.out, jnGo_step, if_neg (by omega)]; simp⟩
        case measure => simp [intOf]; omega
      · have hp : ((k : Int) > 0) := by omega
        have n2 : ¬ (9223372036854775807 < acc.length + 1 + (A[k].length + B[k].length)) := by omega
        go_wp2_with fail
        go_quiet (fail)
        go_wp2_with fail
        go_roundw
        case rel => exact ⟨k + 1, by omega, by go_num, below_drewN hbr _, acc ++ 47 :: (A[k] ++ B[k]), by simp; omega, by simp, by rw [Hid, hR.out, Ht.out, jnGo_step, if_pos h0]; simp⟩
        case measure => simp [intOf]; omega
    · obtain rfl : k = A.length := by omega
      have hx : Hid (Lib.join R [47] = acc) := by
        rw [Hid, hR.out, List.drop_of_length_le (by have := HL.out; omega), jnGo_nil, List.append_nil]
      have qo := fun w => boGood_any acc w (by omega)
      rw [← hx.out, B1.out, hx.out] at qo
      rw [hx.out] at B2
      clear hR hlt
      by_cases hv : besOK l r = true
      · rw [hv] at qo
        have e1 : Hid (besM l r = acc) := by rw [Hid, B2.out, if_pos hv]
        have e2 := Lib.hid hv
        clear hv
        go_wp2_with fail
        refine (qo _).mono ?_
        rintro e w5 ⟨rfl, hb5⟩
        go_wp2_with fail
        go_ret2
        exact ⟨by rw [e1.out, e2.out]; rfl, (hbw.trans (hbr.mono hbw.size)).trans (hb5.mono (by have := hbw.size; have := hbr.size; omega))⟩
      · have e1 : Hid (besM l r = []) := by rw [Hid, B2.out, if_neg hv]
        have e2 : Hid (besOK l r = false) := by simpa [Hid] using hv
        rw [e2.out] at qo
        clear hv
        go_wp2_with fail
        refine (qo _).mono ?_
        rintro e w5 ⟨rfl, hb5⟩
        go_wp2_with fail
        go_ret2
        exact ⟨by rw [e1.out, e2.out]; rfl, (hbw.trans (hbr.mono hbw.size)).trans (hb5.mono (by have := hbw.size; have := hbr.size; omega))⟩
end Go.Proofs.YtndmkbkmfonefabDoor
