/- A copy of a list of ints, as the laws make it. -/
import Derived.Test.YthlbplmghjaeoaeT8
import Derived.Test.YthlbplmghjaeoaeT3
import Derived.Outline
import Derived.OwnWalk
namespace Go.Proofs.Ythlbplmghjaeoae
open Go.RowKit

theorem made_ints (n : Nat) : (madeCells (Value.int .i64 0).cells (n * 1)).toList = ints (List.replicate n 0) := by
  apply List.ext_getElem
  · simp [madeCells]
  · intro i h1 h2
    simp [madeCells, ints, Value.cells, Nat.mod_one]
theorem take_put (cs : List Int) (k : Nat) (x : Int) (h : k < cs.length) : (cs.set k x).take (k + 1) = cs.take k ++ [x] := by
  rw [List.take_add_one, List.take_set_of_le (Nat.le_refl _), List.getElem?_set_self h]
  rfl

set_option maxRecDepth 100000 in
set_option maxHeartbeats 1600000 in
theorem toIntS_any (xs : List Int) (a : Option Addr) (cap : Nat) (w : World) (hat : At w a (ints xs)) (hl : xs.length ≤ 1048576) :
    Calls Try.prog 21 #[.slice a xs.length cap] w fun e w' => ∃ a' cap', e = .returned (.slice a' xs.length cap') ∧ Owns w' w.heap.size 3 (.slice a' xs.length cap') (ints xs) ∧ Below w.heap.size w w' := by
  obtain ⟨ii, hi1, hi2, hi3, hi4⟩ := elemInt.info
  go_enter Try.func21, Try.ntmps21
  go_wp2_with (refine wpList_make_full _ rfl _ _ _ rfl w.heap.size _ _ _ _ elemInt.und hi1 hi2 hi3 _ _ _ _ xs.length (by rfl) (by rfl) rfl rfl (by rw [hi4]; omega) (by simp [maxLen]; omega) (Nat.le_refl _) ?_; intro w1 hown hgr)
  rw [made_ints] at hown
  have hown0 : Owns w1 w.heap.size 3 (.slice (some ⟨w.heap.size, 0, none⟩) xs.length xs.length) (ints (List.replicate xs.length 0)) := by
    unfold Owns
    rw [ints_length, List.length_replicate]
    exact hown
  have hb1 : Below w.heap.size w w1 := (Below.refl _ _).grown hgr (Nat.le_refl _) (fun k hk => by cases hk)
  clear hown hgr hi1 hi2 hi3 hi4
  go_wp2_with fail
  go_loopw [4] (fun i wr => ∃ (k : Nat) (cs : List Int), k ≤ xs.length ∧ i = .int .i64 k ∧ Hid (cs.length = xs.length) ∧ Owns wr w.heap.size 3 (.slice (some ⟨w.heap.size, 0, none⟩) xs.length xs.length) (ints cs) ∧ Below w.heap.size w wr ∧ Hid (cs.take k = xs.take k)) (fun i _ => xs.length - (intOf i).toNat)
  case atStart => exact ⟨0, _, Nat.zero_le _, rfl, by simp [Hid], hown0, hb1, by simp [Hid]⟩
  case round =>
    obtain ⟨k, cs, hk, rfl, hcs, hownr, hbr, hR⟩ := hrel
    by_cases hlt : k < xs.length
    · obtain ⟨b, off, hbe, hcx⟩ := ints_at (hat.below hat (Nat.le_refl _) hbr) k hlt
      subst hbe
      have hltc : k < cs.length := by have := hcs.out; omega
      have hst := hownr.put k (.int .i64 xs[k])
      have hse : (ints cs).set k (.int .i64 xs[k]) = ints (cs.set k xs[k]) := by simp [ints, List.map_set]
      rw [hse] at hst
      have hfr := hownr.froz k
      obtain ⟨g', o', he, hcell⟩ := ints_at hownr.at k hltc
      simp only [Option.some.injEq, Addr.mk.injEq, and_true] at he
      obtain ⟨rfl, rfl⟩ := he
      rw [Nat.zero_add] at hcell
      have htk : Hid ((cs.set k xs[k]).take (k + 1) = xs.take (k + 1)) := by
        rw [Hid, take_put cs k _ hltc, hR.out, List.take_add_one, List.getElem?_eq_getElem hlt]
        rfl
      have hbs : Below w.heap.size w (wr.setCell ⟨w.heap.size, k, none⟩ (.int .i64 xs[k])) := hbr.trans (Below.set k _)
      have hcs' : Hid ((cs.set k xs[k]).length = xs.length) := by rw [Hid, List.length_set]; exact hcs.out
      have HSE := Lib.hid hse
      clear hse
      go_wp2_with fail
      go_roundw
      case rel => exact ⟨k + 1, cs.set k xs[k], by omega, by go_num, hcs', hst, hbs, htk⟩
      case measure => simp [intOf]; omega
    · obtain rfl : k = xs.length := by omega
      have hfin : cs = xs := by
        have h1 := hR.out
        rw [List.take_length] at h1
        rw [← h1, List.take_of_length_le (by have := hcs.out; omega)]
      subst hfin
      clear hcs hR hlt
      go_wp2_with fail
      go_ret
      exact ⟨_, _, rfl, hownr, hbr⟩
end Go.Proofs.Ythlbplmghjaeoae
