/- Counts by the model: all boards of so many cells. -/
import Derived.Test.YthlbplmghjaeoaeJ3
import Derived.Test.YthlbplmghjaeoaeGS2
import Derived.Outline
namespace Go.Proofs.Ythlbplmghjaeoae
open Go.RowKit

/-- Has a board so many mines, where any number may be told? -/
def mnB (mines : Int) (cells : List UInt8) : Bool := decide (mines < 0) || decide (((places 42 cells).length : Int) = mines)
/-- The first boards of so many cells, in order, and all. -/
def allK (n : Nat) (mines : Int) (k : Nat) : List (List UInt8) := ((List.range k).map (ctB n)).filter (mnB mines)
def allM (n : Nat) (mines : Int) : List (List UInt8) := allK n mines (2 ^ n)
theorem allK_snoc (n : Nat) (mines : Int) (k : Nat) : allK n mines (k + 1) = allK n mines k ++ (if mnB mines (ctB n k) = true then [ctB n k] else []) := by
  rw [allK, List.range_succ, List.map_append, List.filter_append, allK]
  simp [List.filter_cons]
theorem allK_le (n : Nat) (mines : Int) (k : Nat) : (allK n mines k).length ≤ k := by
  refine Nat.le_trans (List.length_filter_le _ _) ?_
  simp
theorem pow12 {n : Nat} (h : n ≤ 12) : 1 ≤ 2 ^ n ∧ 2 ^ n ≤ 4096 := ⟨Nat.one_le_two_pow, Nat.pow_le_pow_right (by decide) h⟩
theorem allM_le (n : Nat) (mines : Int) (hn : n ≤ 12) : (allM n mines).length ≤ 4096 := Nat.le_trans (allK_le _ _ _) (pow12 hn).2
theorem allM_len {n : Nat} {mines : Int} {c : List UInt8} (h : c ∈ allM n mines) : c.length = n := by
  obtain ⟨h1, _⟩ := List.mem_filter.1 h
  obtain ⟨m, _, rfl⟩ := List.mem_map.1 h1
  exact ctB_length n m

set_option maxRecDepth 100000 in
set_option maxHeartbeats 1600000 in
theorem ctAll_any (n : Nat) (mines : Int) (hn : n ≤ 12) (w : World) :
    Calls Try.prog 40 #[.int .i64 n, .int .i64 mines] w fun e w' => ∃ a cap, e = .returned (.slice a (allM n mines).length cap) ∧ Owns w' w.heap.size 9 (.slice a (allM n mines).length cap) (txts (allM n mines)) ∧ Below w.heap.size w w' := by
  obtain ⟨hp1, hp2⟩ := pow12 hn
  have hM : allM n mines = allK n mines (2 ^ n) := rfl
  have HM := Lib.hid hM
  have hpz : (1 : Int) * 2 ^ n = ((2 ^ n : Nat) : Int) := by simp
  have HCB := Lib.hid (fun k w (hk : k < 4096) => ctBoard_any n k hn hk w)
  have HBM := Lib.hid (fun k w => boMines_any (ctB n k) 42 42 rfl w (by rw [ctB_length]; omega))
  have HLK := Lib.hid (allK_le n mines)
  have HSN := Lib.hid (allK_snoc n mines)
  have HLB := Lib.hid (fun k => placesGo_le 42 (ctB n k) 0)
  have HMB : Hid (∀ c, mnB mines c = (decide (mines < 0) || decide (((places 42 c).length : Int) = mines))) := fun _ => rfl
  generalize allM n mines = A at *
  generalize hpn : 2 ^ n = p at *
  have HPN := Lib.hid hpn
  clear hM hpn
  go_enter Try.func40, Try.ntmps40
  go_wp2_with fail
  go_loopw [5, 6] (fun o i wr => ∃ k : Nat, k ≤ p ∧ i = .int .i64 k ∧ Owns wr w.heap.size 9 o (txts (allK n mines k)) ∧ Below w.heap.size w wr) (fun _ i _ => p - (intOf i).toNat)
  case atStart => exact ⟨0, by omega, rfl, Owns.nil _ _ _, Below.refl _ _⟩
  case round =>
    obtain ⟨k, hk, rfl, hown, hb⟩ := hrel
    by_cases hlt : k < p
    · have hl := HLK.out k
      have hbs := hb.size
      have HS := Lib.hid (HSN.out k)
      have HB := Lib.hid (HMB.out (ctB n k))
      by_cases hneg : mines < 0
      · have hy : mnB mines (ctB n k) = true := by rw [HB.out]; simp [hneg]
        rw [if_pos hy] at HS
        have HE : Hid (txts (allK n mines (k + 1)) = txts (allK n mines k) ++ [.string ⟨(ctB n k).toArray⟩]) := by rw [Hid, HS.out]; simp [txts]
        clear hy
        go_wp2_with fail
        refine (HCB.out k _ (by omega)).mono ?_
        rintro e w1 ⟨rfl, rfl⟩
        go_wp2_with (at_builtin; refine wpList_app1 rfl _ _ _ rfl _ _ _ _ elemStr _ _ _ _ rfl rfl rfl hown rfl (by simp; omega) hbs (by simp; omega) ?_; intro v1 w1 hown1 hb1 hs1)
        rw [← HE.out] at hown1
        go_roundw
        case rel => exact ⟨k + 1, by omega, by go_num, hown1, hb.trans hb1⟩
        case measure => simp [intOf]; omega
      · have hge : 0 ≤ mines := by omega
        clear hneg
        cases hm : mnB mines (ctB n k) with
        | true =>
          have hd : (((places 42 (ctB n k)).length : Int) == mines) = true := by
            rw [HB.out] at hm
            simp at hm
            rcases hm with hm | hm
            · omega
            · simp [hm]
          rw [if_pos hm] at HS
          have HE : Hid (txts (allK n mines (k + 1)) = txts (allK n mines k) ++ [.string ⟨(ctB n k).toArray⟩]) := by rw [Hid, HS.out]; simp [txts]
          have hpl := HLB.out k
          clear hm
          go_wp2_with fail
          refine (HCB.out k _ (by omega)).mono ?_
          rintro e w1 ⟨rfl, rfl⟩
          go_wp2_with fail
          refine (HBM.out k _).mono ?_
          rintro e w2 ⟨a2, c2, rfl, ho2, hb2⟩
          have hb02 := hb.trans (hb2.mono hbs)
          have hown2 := hown.later hb2
          have hs2 := hb02.size
          clear ho2 hb2 hown
          go_wp2_with (at_builtin; refine wpList_app1 rfl _ _ _ rfl _ _ _ _ elemStr _ _ _ _ rfl rfl rfl hown2 rfl (by simp; omega) hs2 (by simp; omega) ?_; intro v1 w3 hown1 hb1 hs1)
          rw [← HE.out] at hown1
          go_roundw
          case rel => exact ⟨k + 1, by omega, by go_num, hown1, hb02.trans hb1⟩
          case measure => simp [intOf]; omega
        | false =>
          have hd : (((places 42 (ctB n k)).length : Int) == mines) = false := by
            rw [HB.out] at hm
            simp at hm
            simp [hm.2]
          rw [hm] at HS
          have HE : Hid (allK n mines (k + 1) = allK n mines k) := by rw [Hid, HS.out]; simp
          have hpl := HLB.out k
          clear hm
          go_wp2_with fail
          refine (HCB.out k _ (by omega)).mono ?_
          rintro e w1 ⟨rfl, rfl⟩
          go_wp2_with fail
          refine (HBM.out k _).mono ?_
          rintro e w2 ⟨a2, c2, rfl, ho2, hb2⟩
          have hb02 := hb.trans (hb2.mono hbs)
          have hown2 := hown.later hb2
          clear ho2 hb2 hown
          go_wp2_with fail
          go_roundw
          case rel => exact ⟨k + 1, by omega, by go_num, by rw [HE.out]; exact hown2, hb02⟩
          case measure => simp [intOf]; omega
    · obtain rfl : k = p := by omega
      have HE : Hid (A = allK n mines k) := HM
      go_wp2_with fail
      go_ret
      obtain ⟨a, cap, hv⟩ := hown.shape
      simp only [txts, List.length_map] at hv
      exact ⟨a, cap, by rw [HE.out, ← hv]; rfl, by rw [HE.out, ← hv]; exact hown, hb⟩
end Go.Proofs.Ythlbplmghjaeoae
