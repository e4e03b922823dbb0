/- Walks: NeighboursOf, NumberAt and NumbersOf, by the model and by the program. -/
import Derived.Test.YtndmkbkmfonefaaDoorN6
import Derived.Outline
namespace Go.Proofs.YtndmkbkmfonefaaDoor
open Go.RowKit

def nbOf (l : List UInt8) (c : Int) : List Nat := if cellOK l c = true then nearM (gW l) (gCells l).length c.toNat else []
def numOf (l : List UInt8) (c : Int) : Nat := if cellOK l c = true then numM (gCells l) (gW l) c.toNat else 0
def numsOf (l : List UInt8) : List Nat := numsM (gCells l) (gW l)
theorem nbOf_len (l : List UInt8) (c : Int) : (nbOf l c).length ≤ 1048576 := by
  unfold nbOf
  by_cases h : cellOK l c = true
  · rw [if_pos h]; have := nearM_le (gW l) (gCells l).length c.toNat; have := gCells_le l; omega
  · rw [if_neg h]; simp
theorem numsOf_len (l : List UInt8) : (numsOf l).length ≤ 1048576 := by
  rw [numsOf, numsM_length]; have := gCells_le l; omega

set_option maxRecDepth 100000 in
set_option maxHeartbeats 800000 in
theorem sNeighboursOf_any (l : List UInt8) (c : Int) (w : World) (hl : l.length ≤ 1048576) :
    Calls Tryd.prog 24 #[.string ⟨l.toArray⟩, .int .i64 c] w fun e w' => ∃ a cap, e = .returned (.tuple #[.slice a (nbOf l c).length cap, .bool (cellOK l c)]) ∧ Owns w' w.heap.size 3 (.slice a (nbOf l c).length cap) (nats (nbOf l c)) ∧ Below w.heap.size w w' := by
  by_cases hc : cellOK l c = true
  · have hN : nbOf l c = nearM (gW l) (gCells l).length c.toNat := by rw [nbOf, if_pos hc]
    obtain ⟨hg, k, rfl, hk⟩ := cellOK_yes hc
    have hB := Brd.of hg
    generalize headLen (splitB 47 l) = W at *
    generalize (splitB 47 l).length = H at *
    obtain ⟨g1, g2, g3⟩ := hB.grid
    have hlen := hB.len
    have hw1 := hB.w1
    have hw8 := hB.w8
    have hh8 := hB.h8
    have HS := Lib.hid hB.size
    have hn64 := hB.n64
    have hne := near_eq W H k hw8 hh8 (by omega)
    have HNE : Hid (boNearM W H k = (nbOf l k).map Int.ofNat) := by rw [Hid, hN, g1, g3, hlen]; simpa using hne
    have HC := Lib.hid hc
    clear hc hN g1 g2 g3 hlen hne hB
    go_enter Tryd.func24, Tryd.ntmps24
    go_wp2_with fail
    refine (boCell_any l _ _ hl).mono ?_
    rintro e w1 ⟨rfl, hb1⟩
    rw [HC.out]
    go_wp2_with fail
    refine (boSize_any l _ hl).mono ?_
    rintro e w2 ⟨rfl, hb2⟩
    rw [HS.out]
    have s1 := hb1.size
    have s2 := hb2.size
    go_wp2_with fail
    refine (boNear_any W H k _ ⟨hw1, hw8⟩ hh8 (by omega)).mono ?_
    rintro e w3 ⟨a, cap, rfl, hown, hb3⟩
    rw [HNE.out] at hown ⊢
    simp only [List.length_map] at hown ⊢
    go_wp2_with fail
    go_ret2
    exact ⟨a, cap, by rw [HC.out]; rfl, hown.mono (by omega), (hb1.trans (hb2.mono s1)).trans (hb3.mono (by omega))⟩
  · have hN : Hid (nbOf l c = []) := by rw [Hid, nbOf, if_neg hc]
    have hc' : cellOK l c = false := by simpa using hc
    clear hc
    go_enter Tryd.func24, Tryd.ntmps24
    go_wp2_with (go_at_call 42; refine (boCell_any l _ _ hl).mono ?_; rintro e w1 ⟨rfl, hb1⟩)
    go_ret2
    exact ⟨none, 0, by rw [hN.out, hc']; rfl, by rw [hN.out]; exact Owns.nil _ _ _, hb1⟩

set_option maxRecDepth 100000 in
set_option maxHeartbeats 800000 in
theorem iNeighboursOf_any (l : List UInt8) (c : Int) (w : World) (hM : HasMax w) (hl : l.length ≤ 1048576) :
    Calls Tryd.prog 25 #[.string ⟨l.toArray⟩, .int .i64 c] w fun e w' => ∃ a cap, e = .returned (.tuple #[.slice a (nbOf l c).length cap, .bool (cellOK l c)]) ∧ Owns w' w.heap.size 3 (.slice a (nbOf l c).length cap) (nats (nbOf l c)) ∧ Below w.heap.size w w' := by
  by_cases hc : cellOK l c = true
  · have hN : nbOf l c = nearM (gW l) (gCells l).length c.toNat := by rw [nbOf, if_pos hc]
    have HC := Lib.hid hc
    obtain ⟨hg, k, rfl, hk⟩ := cellOK_yes hc
    have hB := Brd.of hg
    obtain ⟨g1, g2, g3⟩ := hB.grid
    have hw1 : 1 ≤ gW l := by rw [g1]; exact hB.w1
    have h64 := gCells_le l
    have hkn : k < (gCells l).length := by rw [g3]; exact hk
    have HN : Hid (nbOf l k = nearM (gW l) (gCells l).length k) := by simpa [Hid] using hN
    clear hN hB g1 g2 g3 hk hg
    go_enter Tryd.func25, Tryd.ntmps25
    go_wp2_with fail
    refine (readWith_yes l k _ hM hl hc).mono ?_
    rintro e w1 ⟨a, cap, rfl, hown, hb1⟩
    have s1 := hb1.size
    clear hc
    go_wp2_with fail
    refine (neighbours_any _ _ _ _ _ k _ hw1 (by omega) h64).mono ?_
    rintro e w2 ⟨a', cap', rfl, hown2, hb2⟩
    rw [← HN.out] at hown2 ⊢
    go_wp2_with fail
    go_ret2
    exact ⟨a', cap', by rw [HC.out]; rfl, hown2.mono (by simp; omega), (hb1.alloc s1 _).trans (hb2.mono (by simp; omega))⟩
  · have hN : Hid (nbOf l c = []) := by rw [Hid, nbOf, if_neg hc]
    have hc' : cellOK l c = false := by simpa using hc
    have HC := Lib.hid hc'
    clear hc
    go_enter Tryd.func25, Tryd.ntmps25
    go_wp2_with fail
    refine (readWith_no l c _ hM hl hc').mono ?_
    rintro e w1 ⟨rfl, hb1⟩
    clear hc'
    unfold NoGrid
    go_wp2_with fail
    go_ret2
    exact ⟨none, 0, by rw [hN.out, HC.out]; rfl, by rw [hN.out]; exact Owns.nil _ _ _, hb1.alloc hb1.size _⟩

set_option maxRecDepth 100000 in
set_option maxHeartbeats 800000 in
theorem sNumberAt_any (l : List UInt8) (c : Int) (w : World) (hl : l.length ≤ 1048576) :
    Calls Tryd.prog 26 #[.string ⟨l.toArray⟩, .int .i64 c] w fun e w' => e = .returned (.tuple #[.int .i64 (numOf l c), .bool (cellOK l c)]) ∧ Below w.heap.size w w' := by
  by_cases hc : cellOK l c = true
  · have hN : numOf l c = numM (gCells l) (gW l) c.toNat := by rw [numOf, if_pos hc]
    obtain ⟨hg, k, rfl, hk⟩ := cellOK_yes hc
    have hB := Brd.of hg
    generalize headLen (splitB 47 l) = W at *
    generalize (splitB 47 l).length = H at *
    obtain ⟨g1, g2, g3⟩ := hB.grid
    have HL := Lib.hid hB.len
    have hw1 := hB.w1
    have hw8 := hB.w8
    have hh8 := hB.h8
    have HS := Lib.hid hB.size
    have HN : Hid (numOf l k = numM (cellsM l) W k) := by rw [Hid, hN, g1, g3]; simp
    have HC := Lib.hid hc
    clear hc hN g1 g2 g3 hB
    go_enter Tryd.func26, Tryd.ntmps26
    go_wp2_with fail
    refine (boCell_any l _ _ hl).mono ?_
    rintro e w1 ⟨rfl, hb1⟩
    rw [HC.out]
    go_wp2_with fail
    refine (boSize_any l _ hl).mono ?_
    rintro e w2 ⟨rfl, hb2⟩
    rw [HS.out]
    have s1 := hb1.size
    have s2 := hb2.size
    go_wp2_with fail
    refine (boCells_any l _ hl).mono ?_
    rintro e w2' ⟨rfl, rfl⟩
    go_wp2_with fail
    refine (boNumber_any W H (cellsM l) k _ ⟨hw1, hw8⟩ hh8 HL.out hk).mono ?_
    rintro e w3 ⟨rfl, hb3⟩
    go_wp2_with fail
    go_ret2
    exact ⟨by rw [HN.out, HC.out]; rfl, (hb1.trans (hb2.mono s1)).trans (hb3.mono (by omega))⟩
  · have hN : Hid (numOf l c = 0) := by rw [Hid, numOf, if_neg hc]
    have hc' : cellOK l c = false := by simpa using hc
    clear hc
    go_enter Tryd.func26, Tryd.ntmps26
    go_wp2_with (go_at_call 42; refine (boCell_any l _ _ hl).mono ?_; rintro e w1 ⟨rfl, hb1⟩)
    go_ret2
    exact ⟨by rw [hN.out, hc']; rfl, hb1⟩

set_option maxRecDepth 100000 in
set_option maxHeartbeats 800000 in
theorem iNumberAt_any (l : List UInt8) (c : Int) (w : World) (hM : HasMax w) (hl : l.length ≤ 1048576) :
    Calls Tryd.prog 27 #[.string ⟨l.toArray⟩, .int .i64 c] w fun e w' => e = .returned (.tuple #[.int .i64 (numOf l c), .bool (cellOK l c)]) ∧ Below w.heap.size w w' := by
  by_cases hc : cellOK l c = true
  · have hN : numOf l c = numM (gCells l) (gW l) c.toNat := by rw [numOf, if_pos hc]
    have HC := Lib.hid hc
    obtain ⟨hg, k, rfl, hk⟩ := cellOK_yes hc
    have hB := Brd.of hg
    obtain ⟨g1, g2, g3⟩ := hB.grid
    have hw1 : 1 ≤ gW l := by rw [g1]; exact hB.w1
    have h64 := gCells_le l
    have hkn : k < (gCells l).length := by rw [g3]; exact hk
    have HN : Hid (numOf l k = numM (gCells l) (gW l) k) := by simpa [Hid] using hN
    clear hN hB g1 g2 g3 hk hg
    go_enter Tryd.func27, Tryd.ntmps27
    go_wp2_with fail
    refine (readWith_yes l k _ hM hl hc).mono ?_
    rintro e w1 ⟨a, cap, rfl, hown, hb1⟩
    have s1 := hb1.size
    have hat : ∀ o, At (w1.alloc o) a (byts (gCells l)) := fun o => (hown.at).later rfl ((Below.refl _ _).alloc (Nat.le_refl _) _)
    clear hc
    go_wp2_with fail
    refine (number_any _ _ _ _ _ k _ (hat _) hw1 hkn h64).mono ?_
    rintro e w2 ⟨rfl, hb2⟩
    go_wp2_with fail
    go_ret2
    exact ⟨by rw [HN.out, HC.out]; rfl, (hb1.alloc s1 _).trans (hb2.mono (by simp; omega))⟩
  · have hN : Hid (numOf l c = 0) := by rw [Hid, numOf, if_neg hc]
    have hc' : cellOK l c = false := by simpa using hc
    have HC := Lib.hid hc'
    clear hc
    go_enter Tryd.func27, Tryd.ntmps27
    go_wp2_with fail
    refine (readWith_no l c _ hM hl hc').mono ?_
    rintro e w1 ⟨rfl, hb1⟩
    clear hc'
    unfold NoGrid
    go_wp2_with fail
    go_ret2
    exact ⟨by rw [hN.out, HC.out]; rfl, hb1.alloc hb1.size _⟩
end Go.Proofs.YtndmkbkmfonefaaDoor
