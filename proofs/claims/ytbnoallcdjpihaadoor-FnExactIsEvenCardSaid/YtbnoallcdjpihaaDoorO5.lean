/- Joined boards by the model: numbers, pictures, sums and neighbours around. -/
import Derived.Test.YtbnoallcdjpihaaDoorO4
import Derived.Test.YtbnoallcdjpihaaDoorT10
import Derived.Outline
namespace Go.Proofs.YtbnoallcdjpihaaDoor
open Go.RowKit

theorem Brd.g {l : List UInt8} (h : boGoodM l = true) : Brd l (gW l) (gH l) (gCells l) := by
  have hB := Brd.of h
  obtain ⟨g1, g2, g3⟩ := hB.grid
  rw [g1, g2, g3]
  exact hB
/-- The form of what the program reads of a text. -/
def jG (l : List UInt8) : Geo := geoOf (joB l) (jW l) (jH l)
theorem jG_yes {l : List UInt8} (h : joB l = true) : jG l = .around (gW l) (gH l) := by
  rw [jG, h, jW, jH, if_pos h, if_pos h]; rfl
theorem jC_yes {l : List UInt8} (h : joB l = true) : jC l = gCells l ∧ jW l = gW l ∧ jH l = gH l := by
  rw [jC, jW, jH, if_pos h, if_pos h, if_pos h]; exact ⟨rfl, rfl, rfl⟩
theorem jC_no {l : List UInt8} (h : joB l = false) : jC l = [] ∧ jW l = 0 ∧ jH l = 0 := by
  have hn : ¬ joB l = true := by rw [h]; decide
  rw [jC, jW, jH, if_neg hn, if_neg hn, if_neg hn]; exact ⟨rfl, rfl, rfl⟩

/-- What JoinedNumbers hands back. -/
def jnOf (l : List UInt8) : List Nat := numsM (jC l) (jG l)
theorem jnOf_len (l : List UInt8) : (jnOf l).length ≤ 1048576 := by
  rw [jnOf, numsM_length]; exact Nat.le_trans (jC_le l) (by decide)

set_option maxRecDepth 100000 in
set_option maxHeartbeats 400000 in
theorem joOf_any (l : List UInt8) (w : World) (hl : l.length ≤ 1048576) (hj : joB l = true) :
    Calls Tryd.prog 22 #[.string ⟨l.toArray⟩] w fun e w' => ∃ a cap, e = .returned (.slice a (gCells l).length cap) ∧ Owns w' w.heap.size 3 (.slice a (gCells l).length cap) (nats (numsM (gCells l) (.around (gW l) (gH l)))) ∧ Below w.heap.size w w' := by
  have hB := Brd.g (joB_good hj)
  have hs := joB_sizes hj
  have HS := Lib.hid (fun w => boSize_any l w hl)
  have HC := Lib.hid (fun w => boCells_any l w hl)
  rw [hB.size] at HS
  rw [hB.cs] at HC
  have HJ := Lib.hid (fun w => joNumbers_any (gW l) (gH l) (gCells l) w ⟨hs.1, hB.w8⟩ ⟨hs.2, hB.h8⟩ hB.len hB.sign)
  clear hB hs hj
  generalize gW l = W at *
  generalize gH l = H at *
  generalize gCells l = cells at *
  go_enter Tryd.func22, Tryd.ntmps22
  go_wp2_with fail
  refine (HS.out _).mono ?_
  rintro e w1 ⟨rfl, hb1⟩
  go_wp2_with fail
  refine (HC.out _).mono ?_
  rintro e w1' ⟨rfl, rfl⟩
  go_wp2_with fail
  refine (HJ.out _).mono ?_
  rintro e w2 ⟨a, cap, rfl, hown, hb2⟩
  go_wp2_with fail
  go_ret
  exact ⟨a, cap, rfl, hown.mono hb1.size, hb1.trans (hb2.mono hb1.size)⟩


/-- What JoinedPicture hands back. -/
def jpiM (l : List UInt8) : List UInt8 := textM (picGo (jC l) (jG l) 0 (jC l).length) (jW l) (jH l)
theorem jpiM_no {l : List UInt8} (h : joB l = false) : jpiM l = [] := by
  rw [jpiM, (jC_no h).2.1, (jC_no h).2.2]; rfl

/-- What JoinedSum hands back. -/
def jsM (l : List UInt8) : Nat := sumGo (jC l) (jG l) 0 (jC l).length

/-- What JoinedNeighbours hands back. -/
def jnbOf (l : List UInt8) (c : Int) : List Nat := if jOK l c = true then nearM (jG l) (jC l).length c.toNat else []
theorem jnbOf_len (l : List UInt8) (c : Int) : (jnbOf l c).length ≤ 1048576 := by
  unfold jnbOf
  split
  · exact Nat.le_trans (nearM_le _ _ _) (Nat.le_trans (jC_le l) (by decide))
  · simp
theorem jOK_at {l : List UInt8} {c : Int} (h : jOK l c = true) : joB l = true ∧ ∃ k : Nat, c = k ∧ k < (gCells l).length := by
  obtain ⟨h1, h2⟩ := jOK_yes h
  rw [(jC_yes h1).1] at h2
  simp [inC] at h2
  exact ⟨h1, c.toNat, by omega, by omega⟩
set_option maxRecDepth 100000 in
theorem joCell_any (l : List UInt8) (c : Int) (w : World) (hl : l.length ≤ 1048576) :
    Calls Tryd.prog 33 #[.string ⟨l.toArray⟩, .int .i64 c] w fun e w' => e = .returned (.bool (jOK l c)) ∧ Below w.heap.size w w' := by
  have HG := Lib.hid (fun w => joGood_any l w hl)
  have HC := Lib.hid (fun w => boCells_any l w hl)
  cases hj : joB l with
  | false =>
    rw [hj] at HG
    have HN : Hid (jOK l c = false) := by rw [Hid, jOK, hj]; rfl
    clear hj
    go_enter Tryd.func33, Tryd.ntmps33
    go_wp2_with fail
    refine (HG.out _).mono ?_
    rintro e w1 ⟨rfl, hb1⟩
    go_wp2_with fail
    go_ret
    exact ⟨by rw [HN.out]; rfl, hb1⟩
  | true =>
    have hB := Brd.g (joB_good hj)
    rw [hB.cs] at HC
    have h64 := hB.n64
    have HN : Hid (jOK l c = inB c 0 ((gCells l).length - 1)) := by
      rw [Hid, jOK, hj, (jC_yes hj).1]
      unfold inC inB
      rw [Bool.true_and]
      congr 1
      apply decide_eq_decide.2; omega
    rw [hj] at HG
    clear hj hB
    generalize gCells l = cells at *
    go_enter Tryd.func33, Tryd.ntmps33
    go_wp2_with fail
    refine (HG.out _).mono ?_
    rintro e w1 ⟨rfl, hb1⟩
    go_wp2_with fail
    refine (HC.out _).mono ?_
    rintro e w1' ⟨rfl, rfl⟩
    go_wp2_with (go_at_call 44; refine (l1In_any _ _ _ _).mono ?_; rintro e w' ⟨rfl, rfl⟩)
    go_ret
    exact ⟨by rw [HN.out]; rfl, hb1⟩
end Go.Proofs.YtbnoallcdjpihaaDoor
