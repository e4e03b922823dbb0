/- Joined boards by the model: numbers, pictures, sums and neighbours around. -/
import Derived.Test.YtggjponlgndghaaDoorO4
import Derived.Test.YtggjponlgndghaaDoorT10
import Derived.Outline
namespace Go.Proofs.YtggjponlgndghaaDoor
open Go.RowKit

theorem Brd.g {l : List UInt8} (h : boGoodM l = true) : Brd l (gW l) (gH l) (gCells l) := by
  have hB := Brd.of h
  obtain ⟨g1, g2, g3⟩ := hB.grid
  rw [g1, g2, g3]
  exact hB
/-- The form of what the program reads of a text. -/
def jG (l : List UInt8) : Geo := geoOf (joB l) (jW l) (jH l)
theorem jG_yes {l : List UInt8} (h : joB l = true) : jG l = .around (gW l) (gH l) := by
  rw [jG, h, jW, jH, if_pos h, if_pos h]; rfl
theorem jC_yes {l : List UInt8} (h : joB l = true) : jC l = gCells l ∧ jW l = gW l ∧ jH l = gH l := by
  rw [jC, jW, jH, if_pos h, if_pos h, if_pos h]; exact ⟨rfl, rfl, rfl⟩
theorem jC_no {l : List UInt8} (h : joB l = false) : jC l = [] ∧ jW l = 0 ∧ jH l = 0 := by
  have hn : ¬ joB l = true := by rw [h]; decide
  rw [jC, jW, jH, if_neg hn, if_neg hn, if_neg hn]; exact ⟨rfl, rfl, rfl⟩

/-- What JoinedNumbers hands back. -/
def jnOf (l : List UInt8) : List Nat := numsM (jC l) (jG l)
theorem jnOf_len (l : List UInt8) : (jnOf l).length ≤ 1048576 := by
  rw [jnOf, numsM_length]; exact Nat.le_trans (jC_le l) (by decide)

set_option maxRecDepth 100000 in
set_option maxHeartbeats 400000 in
theorem joOf_any (l : List UInt8) (w : World) (hl : l.length ≤ 1048576) (hj : joB l = true) :
    Calls Tryd.prog 40 #[.string ⟨l.toArray⟩] w fun e w' => ∃ a cap, e = .returned (.slice a (gCells l).length cap) ∧ Owns w' w.heap.size 3 (.slice a (gCells l).length cap) (nats (numsM (gCells l) (.around (gW l) (gH l)))) ∧ Below w.heap.size w w' := by
  have hB := Brd.g (joB_good hj)
  have hs := joB_sizes hj
  have HS := Lib.hid (fun w => boSize_any l w hl)
  have HC := Lib.hid (fun w => boCells_any l w hl)
  rw [hB.size] at HS
  rw [hB.cs] at HC
  have HJ := Lib.hid (fun w => joNumbers_any (gW l) (gH l) (gCells l) w ⟨hs.1, hB.w8⟩ ⟨hs.2, hB.h8⟩ hB.len hB.sign)
  clear hB hs hj
  generalize gW l = W at *
  generalize gH l = H at *
  generalize gCells l = cells at *
  go_enter Tryd.func40, Tryd.ntmps40
  go_wp2_with fail
  refine (HS.out _).mono ?_
  rintro e w1 ⟨rfl, hb1⟩
  go_wp2_with fail
  refine (HC.out _).mono ?_
  rintro e w1' ⟨rfl, rfl⟩
  go_wp2_with fail
  refine (HJ.out _).mono ?_
  rintro e w2 ⟨a, cap, rfl, hown, hb2⟩
  go_wp2_with fail
  go_ret
  exact ⟨a, cap, rfl, hown.mono hb1.size, hb1.trans (hb2.mono hb1.size)⟩

set_option maxRecDepth 100000 in
set_option maxHeartbeats 400000 in
theorem sJoinedNumbers_any (l : List UInt8) (w : World) (hl : l.length ≤ 1048576) :
    Calls Tryd.prog 18 #[.string ⟨l.toArray⟩] w fun e w' => ∃ a cap, e = .returned (.tuple #[.slice a (jnOf l).length cap, .bool (joB l)]) ∧ Owns w' w.heap.size 3 (.slice a (jnOf l).length cap) (nats (jnOf l)) ∧ Below w.heap.size w w' := by
  have HG := Lib.hid (fun w => joGood_any l w hl)
  cases hj : joB l with
  | false =>
    rw [hj] at HG
    have HN : Hid (jnOf l = []) := by rw [Hid, jnOf, (jC_no hj).1]; rfl
    clear hj
    go_enter Tryd.func18, Tryd.ntmps18
    go_wp2_with fail
    refine (HG.out _).mono ?_
    rintro e w1 ⟨rfl, hb1⟩
    go_wp2_with fail
    go_ret2
    exact ⟨none, 0, by rw [HN.out]; rfl, by rw [HN.out]; exact Owns.nil _ _ _, hb1⟩
  | true =>
    have HJ := Lib.hid (fun w => joOf_any l w hl hj)
    have HN : Hid (jnOf l = numsM (gCells l) (.around (gW l) (gH l))) := by rw [Hid, jnOf, (jC_yes hj).1, jG_yes hj]
    have HL : Hid ((jnOf l).length = (gCells l).length) := by rw [Hid, HN.out, numsM_length]
    rw [hj] at HG
    clear hj
    go_enter Tryd.func18, Tryd.ntmps18
    go_wp2_with fail
    refine (HG.out _).mono ?_
    rintro e w1 ⟨rfl, hb1⟩
    go_wp2_with fail
    refine (HJ.out _).mono ?_
    rintro e w2 ⟨a, cap, rfl, hown, hb2⟩
    go_wp2_with fail
    go_ret2
    exact ⟨a, cap, by rw [HL.out]; rfl, by rw [HL.out, HN.out]; exact hown.mono hb1.size, hb1.trans (hb2.mono hb1.size)⟩

/-- What JoinedPicture hands back. -/
def jpiM (l : List UInt8) : List UInt8 := textM (picGo (jC l) (jG l) 0 (jC l).length) (jW l) (jH l)
theorem jpiM_no {l : List UInt8} (h : joB l = false) : jpiM l = [] := by
  rw [jpiM, (jC_no h).2.1, (jC_no h).2.2]; rfl
set_option maxRecDepth 100000 in
set_option maxHeartbeats 1600000 in
theorem sJoinedPicture_any (l : List UInt8) (w : World) (hl : l.length ≤ 1048576) :
    Calls Tryd.prog 20 #[.string ⟨l.toArray⟩] w fun e w' => e = .returned (.tuple #[.string ⟨(jpiM l).toArray⟩, .bool (joB l)]) ∧ Below w.heap.size w w' := by
  have HG := Lib.hid (fun w => joGood_any l w hl)
  cases hj : joB l with
  | false =>
    rw [hj] at HG
    have HN := Lib.hid (jpiM_no hj)
    clear hj
    go_enter Tryd.func20, Tryd.ntmps20
    go_wp2_with fail
    refine (HG.out _).mono ?_
    rintro e w1 ⟨rfl, hb1⟩
    go_wp2_with fail
    go_ret2
    exact ⟨by rw [HN.out]; rfl, hb1⟩
  | true =>
    have HJ := Lib.hid (fun w => joOf_any l w hl hj)
    have hB := Brd.g (joB_good hj)
    have HS := Lib.hid (fun w => boSize_any l w hl)
    have HC := Lib.hid (fun w => boCells_any l w hl)
    rw [hB.size] at HS
    rw [hB.cs] at HC
    have HO : Hid (jpiM l = brGo (gW l) 0 (picGo (gCells l) (.around (gW l) (gH l)) 0 (gCells l).length)) := by
      rw [Hid, jpiM, jG_yes hj, (jC_yes hj).1, (jC_yes hj).2.1, (jC_yes hj).2.2, brGo_text (gW l) (gH l) hB.w1 _ (by simpa using hB.len)]
    have h9 := Lib.hid (fun k (hk : k < (gCells l).length) => numJ_nine true (gCells l) (gW l) (gH l) k hB.w8 hB.h8 hB.len hk)
    rw [show geoOf true (gW l) (gH l) = .around (gW l) (gH l) from rfl] at h9
    rw [hj] at HG
    have h64 := hB.n64
    have hW1 := hB.w1
    have hW8 := hB.w8
    clear hj hB
    generalize Geo.around (gW l) (gH l) = V at *
    generalize gW l = W at *
    generalize gCells l = cells at *
    go_enter Tryd.func20, Tryd.ntmps20
    go_wp2_with fail
    refine (HG.out _).mono ?_
    rintro e w1 ⟨rfl, hb1⟩
    go_wp2_with fail
    refine (HS.out _).mono ?_
    rintro e w2 ⟨rfl, hb2⟩
    go_wp2_with fail
    refine (HC.out _).mono ?_
    rintro e w2' ⟨rfl, rfl⟩
    go_wp2_with fail
    refine (HJ.out _).mono ?_
    rintro e w3 ⟨a, cap, rfl, hown, hb3⟩
    have hat := hown.at
    have hb03 : Below w.heap.size w w3 := (hb1.trans (hb2.mono hb1.size)).trans (hb3.mono (by have := hb1.size; have := hb2.size; omega))
    clear hown hb1 hb2 hb3
    go_wp2_with fail
    go_loopw [7, 23] (fun v i wr => ∃ k : Nat, k ≤ cells.length ∧ i = .int .i64 k ∧ v = .string ⟨(picGo cells V 0 k).toArray⟩ ∧ Below w3.heap.size w3 wr) (fun _ i _ => cells.length - (intOf i).toNat)
    case atStart => exact ⟨0, Nat.zero_le _, rfl, rfl, Below.refl _ _⟩
    case round =>
      obtain ⟨k, hk, rfl, rfl, hbr⟩ := hrel
      have hacc : (picGo cells V 0 k).length = k := picGo_length _ _ _ _
      by_cases hlt : k < cells.length
      · have hsn := Lib.hid (picGo_snoc cells V k 0)
        have hgd : Hid (cells.getD k 0 = cells[k]) := by simp [Hid, List.getD, hlt]
        obtain ⟨b, off, he, hcell⟩ := nats_at (hat.later rfl hbr) k (by simpa using hlt)
        subst he
        rw [numsM_get] at hcell
        have hn9 := h9.out k hlt
        generalize picGo cells V 0 k = acc at *
        by_cases h42 : cells[k] = 42
        · have hd : ((cells[k].toNat : Int) == 42) = true := by rw [is42]; simp [h42]
          have hp := Lib.hid (show picB cells V (0 + k) = 42 by rw [Nat.zero_add, picB, if_pos (by rw [hgd.out, h42])])
          clear h42
          go_wp2_with fail
          go_roundw
          case rel => exact ⟨k + 1, by omega, by go_num, by rw [hsn.out, hp.out], hbr⟩
          case measure => simp [intOf]; omega
        · have hd : ((cells[k].toNat : Int) == 42) = false := by rw [is42]; simp [h42]
          have hp := Lib.hid (show picB cells V (0 + k) = digB (numM cells V k) by rw [Nat.zero_add, picB, if_neg (by rw [hgd.out]; exact h42)])
          clear h42
          go_wp2_with fail
          refine (l1Num_any _ _ hn9).mono ?_
          rintro e w4 ⟨rfl, hb4⟩
          go_wp2_with fail
          go_roundw
          case rel => exact ⟨k + 1, by omega, by go_num, by rw [hsn.out, hp.out], hbr.trans (hb4.mono hbr.size)⟩
          case measure => simp [intOf]; omega
      · obtain rfl : k = cells.length := by omega
        go_wp2_with fail
        refine (boRows_any _ W _ (by simpa using h64) hW1 (by omega)).mono ?_
        rintro e w5 ⟨rfl, rfl⟩
        go_wp2_with fail
        go_ret2
        exact ⟨by rw [HO.out]; rfl, hb03.trans (hbr.mono hb03.size)⟩

/-- What JoinedSum hands back. -/
def jsM (l : List UInt8) : Nat := sumGo (jC l) (jG l) 0 (jC l).length
set_option maxRecDepth 100000 in
set_option maxHeartbeats 1600000 in
theorem sJoinedSum_any (l : List UInt8) (w : World) (hl : l.length ≤ 1048576) :
    Calls Tryd.prog 22 #[.string ⟨l.toArray⟩] w fun e w' => e = .returned (.tuple #[.int .i64 (jsM l), .bool (joB l)]) ∧ Below w.heap.size w w' := by
  have HG := Lib.hid (fun w => joGood_any l w hl)
  cases hj : joB l with
  | false =>
    rw [hj] at HG
    have HN : Hid (jsM l = 0) := by rw [Hid, jsM, (jC_no hj).1]; rfl
    clear hj
    go_enter Tryd.func22, Tryd.ntmps22
    go_wp2_with fail
    refine (HG.out _).mono ?_
    rintro e w1 ⟨rfl, hb1⟩
    go_wp2_with fail
    go_ret2
    exact ⟨by rw [HN.out]; rfl, hb1⟩
  | true =>
    have HJ := Lib.hid (fun w => joOf_any l w hl hj)
    have hB := Brd.g (joB_good hj)
    have HC := Lib.hid (fun w => boCells_any l w hl)
    rw [hB.cs] at HC
    have HO : Hid (jsM l = sumGo (gCells l) (.around (gW l) (gH l)) 0 (gCells l).length) := by rw [Hid, jsM, jG_yes hj, (jC_yes hj).1]
    rw [hj] at HG
    have h64 := hB.n64
    have hsg := Lib.hid hB.sign
    clear hj hB
    generalize Geo.around (gW l) (gH l) = V at *
    generalize gCells l = cells at *
    go_enter Tryd.func22, Tryd.ntmps22
    go_wp2_with fail
    refine (HG.out _).mono ?_
    rintro e w1 ⟨rfl, hb1⟩
    go_wp2_with fail
    refine (HC.out _).mono ?_
    rintro e w1' ⟨rfl, rfl⟩
    go_wp2_with fail
    refine (HJ.out _).mono ?_
    rintro e w3 ⟨a, cap, rfl, hown, hb3⟩
    have hat := hown.at
    have hb03 : Below w.heap.size w w3 := hb1.trans (hb3.mono hb1.size)
    clear hown hb1 hb3
    have hT : Hid (jsM l = 0 + sumGo cells V 0 (cells.length - 0)) := by rw [Hid, HO.out]; simp
    go_wp2_with fail
    go_loop [5, 16] (fun q i => ∃ k : Nat, k ≤ cells.length ∧ i = .int .i64 k ∧ ∃ s : Nat, s ≤ k * 64 ∧ q = .int .i64 s ∧ Hid (jsM l = s + sumGo cells V k (cells.length - k))) (fun _ i => cells.length - (intOf i).toNat)
    case atStart => exact ⟨0, Nat.zero_le _, rfl, 0, by omega, rfl, hT⟩
    case round =>
      obtain ⟨k, hk, rfl, s, hs, rfl, hR⟩ := hrel
      by_cases hlt : k < cells.length
      · have hgd : Hid (cells.getD k 0 = cells[k]) := by simp [Hid, List.getD, hlt]
        obtain ⟨b, off, he, hcell⟩ := nats_at hat k (by simpa using hlt)
        subst he
        rw [numsM_get] at hcell
        have hnum := numM_le cells V k
        have hst : Hid (sumGo cells V k (cells.length - k) = if cells[k] = 42 then sumGo cells V (k + 1) (cells.length - (k + 1)) else numM cells V k + sumGo cells V (k + 1) (cells.length - (k + 1))) := by
          rw [Hid, show cells.length - k = (cells.length - (k + 1)) + 1 by omega, sumGo, hgd.out]
        rcases hsg.out _ (List.getElem_mem hlt) with h46 | h42
        · have hd : ((cells[k].toNat : Int) == 46) = true := by rw [h46]; rfl
          have H42 : Hid (¬ cells[k] = 42) := by rw [Hid, h46]; decide
          clear h46
          go_wp2_with fail
          go_round
          case rel => exact ⟨k + 1, by omega, by go_num, s + numM cells V k, by omega, by go_num, by rw [Hid, hR.out, hst.out, if_neg H42.out]; omega⟩
          case measure => simp [intOf]; omega
        · have hd : ((cells[k].toNat : Int) == 46) = false := by rw [h42]; rfl
          have H42 := Lib.hid h42
          clear h42
          go_wp2_with fail
          go_round
          case rel => exact ⟨k + 1, by omega, by go_num, s, by omega, rfl, by rw [Hid, hR.out, hst.out, if_pos H42.out]⟩
          case measure => simp [intOf]; omega
      · obtain rfl : k = cells.length := by omega
        have hfin : Hid (s = jsM l) := by rw [Hid, hR.out]; simp [sumGo]
        go_wp2_with fail
        go_ret2
        exact ⟨by rw [← hfin.out]; rfl, hb03⟩

/-- What JoinedNeighbours hands back. -/
def jnbOf (l : List UInt8) (c : Int) : List Nat := if jOK l c = true then nearM (jG l) (jC l).length c.toNat else []
theorem jnbOf_len (l : List UInt8) (c : Int) : (jnbOf l c).length ≤ 1048576 := by
  unfold jnbOf
  split
  · exact Nat.le_trans (nearM_le _ _ _) (Nat.le_trans (jC_le l) (by decide))
  · simp
theorem jOK_at {l : List UInt8} {c : Int} (h : jOK l c = true) : joB l = true ∧ ∃ k : Nat, c = k ∧ k < (gCells l).length := by
  obtain ⟨h1, h2⟩ := jOK_yes h
  rw [(jC_yes h1).1] at h2
  simp [inC] at h2
  exact ⟨h1, c.toNat, by omega, by omega⟩
set_option maxRecDepth 100000 in
theorem joCell_any (l : List UInt8) (c : Int) (w : World) (hl : l.length ≤ 1048576) :
    Calls Tryd.prog 35 #[.string ⟨l.toArray⟩, .int .i64 c] w fun e w' => e = .returned (.bool (jOK l c)) ∧ Below w.heap.size w w' := by
  have HG := Lib.hid (fun w => joGood_any l w hl)
  have HC := Lib.hid (fun w => boCells_any l w hl)
  cases hj : joB l with
  | false =>
    rw [hj] at HG
    have HN : Hid (jOK l c = false) := by rw [Hid, jOK, hj]; rfl
    clear hj
    go_enter Tryd.func35, Tryd.ntmps35
    go_wp2_with fail
    refine (HG.out _).mono ?_
    rintro e w1 ⟨rfl, hb1⟩
    go_wp2_with fail
    go_ret
    exact ⟨by rw [HN.out]; rfl, hb1⟩
  | true =>
    have hB := Brd.g (joB_good hj)
    rw [hB.cs] at HC
    have h64 := hB.n64
    have HN : Hid (jOK l c = inB c 0 ((gCells l).length - 1)) := by
      rw [Hid, jOK, hj, (jC_yes hj).1]
      unfold inC inB
      rw [Bool.true_and]
      congr 1
      apply decide_eq_decide.2; omega
    rw [hj] at HG
    clear hj hB
    generalize gCells l = cells at *
    go_enter Tryd.func35, Tryd.ntmps35
    go_wp2_with fail
    refine (HG.out _).mono ?_
    rintro e w1 ⟨rfl, hb1⟩
    go_wp2_with fail
    refine (HC.out _).mono ?_
    rintro e w1' ⟨rfl, rfl⟩
    go_wp2_with (go_at_call 47; refine (l1In_any _ _ _ _).mono ?_; rintro e w' ⟨rfl, rfl⟩)
    go_ret
    exact ⟨by rw [HN.out]; rfl, hb1⟩
set_option maxRecDepth 100000 in
set_option maxHeartbeats 400000 in
theorem sJoinedNeighbours_any (l : List UInt8) (c : Int) (w : World) (hl : l.length ≤ 1048576) :
    Calls Tryd.prog 13 #[.string ⟨l.toArray⟩, .int .i64 c] w fun e w' => ∃ a cap, e = .returned (.tuple #[.slice a (jnbOf l c).length cap, .bool (jOK l c)]) ∧ Owns w' w.heap.size 3 (.slice a (jnbOf l c).length cap) (nats (jnbOf l c)) ∧ Below w.heap.size w w' := by
  have HG := Lib.hid (fun w => joCell_any l c w hl)
  cases hc : jOK l c with
  | false =>
    rw [hc] at HG
    have HN : Hid (jnbOf l c = []) := by rw [Hid, jnbOf, hc]; rfl
    clear hc
    go_enter Tryd.func13, Tryd.ntmps13
    go_wp2_with fail
    refine (HG.out _).mono ?_
    rintro e w1 ⟨rfl, hb1⟩
    go_wp2_with fail
    go_ret2
    exact ⟨none, 0, by rw [HN.out]; rfl, by rw [HN.out]; exact Owns.nil _ _ _, hb1⟩
  | true =>
    obtain ⟨hj, k, rfl, hk⟩ := jOK_at hc
    have hB := Brd.g (joB_good hj)
    have hs := joB_sizes hj
    have HS := Lib.hid (fun w => boSize_any l w hl)
    rw [hB.size] at HS
    have HJ := Lib.hid (fun w => joNear_any (gW l) (gH l) k ⟨hB.w1, hB.w8⟩ ⟨hB.h1, hB.h8⟩ (by rw [← hB.len]; exact hk) w)
    have HN : Hid (jnbOf l (k : Int) = joN (gW l) (gH l) k) := by
      rw [Hid, jnbOf, if_pos hc, jG_yes hj, (jC_yes hj).1, joN_eq (gW l) (gH l) k ⟨hs.1, hB.w8⟩ ⟨hs.2, hB.h8⟩ (by rw [← hB.len]; exact hk), hB.len]
      rfl
    rw [hc] at HG
    clear hc hj hB hs
    generalize gW l = W at *
    generalize gH l = H at *
    go_enter Tryd.func13, Tryd.ntmps13
    go_wp2_with fail
    refine (HG.out _).mono ?_
    rintro e w1 ⟨rfl, hb1⟩
    go_wp2_with fail
    refine (HS.out _).mono ?_
    rintro e w2 ⟨rfl, hb2⟩
    go_wp2_with fail
    refine (HJ.out _).mono ?_
    rintro e w3 ⟨v, rfl, hown, hb3⟩
    obtain ⟨a, cap, hv⟩ := hown.shape
    simp only [nats_length] at hv
    subst hv
    go_wp2_with fail
    go_ret2
    have s1 := hb1.size
    have s2 := hb2.size
    exact ⟨a, cap, by rw [HN.out]; rfl, by rw [HN.out]; exact hown.mono (by omega), (hb1.trans (hb2.mono s1)).trans (hb3.mono (by omega))⟩
end Go.Proofs.YtggjponlgndghaaDoor
