/- J2, J3, J4, laid as one text. -/
import Derived.Test.YthlbplmghjaeoaeJ1
import Derived.Test.YthlbplmghjaeoaeGN1
import Derived.Outline
import Derived.Lib.RabinKarpLaws
import Derived.Test.YthlbplmghjaeoaeGS2

/- Counts by the model: pairs of cells, boards by mines, by a number of a cell, mines apart. -/
namespace Go.Proofs.Ythlbplmghjaeoae
open Go.RowKit

/-- What PairsOfCells hands back. -/
def pcM (w h : Int) : Int := if szB w h 64 = true then prsM w h else 0
/-- What CountBoards hands back. -/
def cbB (w h m : Int) : Bool := szB w h 12 && inB m 0 (w * h)
def cbM (w h m : Int) : Int := if cbB w h m = true then chI (w.toNat * h.toNat) m else 0
/-- What MostApart hands back. -/
def maM (w h : Int) : Int := if szB w h 12 = true then (w + 1) / 2 * ((h + 1) / 2) else 0
/-- What CountWithNumber hands back. -/
def cnB (w h m c d : Int) : Bool := szB w h 12 && inB m 0 (w * h) && inB c 0 (w * h - 1) && inB d 0 8
def cnM (w h m c d : Int) : Int := if cnB w h m c d = true then chI (nearM w.toNat (w.toNat * h.toNat) c.toNat).length d * chI (w.toNat * h.toNat - 1 - (nearM w.toNat (w.toNat * h.toNat) c.toNat).length) (m - d) else 0

theorem chI_all : ∀ n < 13, ∀ k < 13, binom n k ≤ 924 := by decide +kernel
theorem chI_le (n : Nat) (k : Int) (hn : n ≤ 12) : 0 ≤ chI n k ∧ chI n k ≤ 924 := by
  unfold chI
  split
  · by_cases hk : k.toNat < 13
    · have := chI_all n (by omega) k.toNat hk
      omega
    · rw [binom_over n k.toNat (by omega)]
      omega
  · omega
theorem near12_all : ∀ W : Nat, W < 9 → ∀ H : Nat, H < 9 → W * H ≤ 12 → ∀ c, c < W * H → (nearM W (W * H) c).length + 1 ≤ W * H ∧ (nearM W (W * H) c).length ≤ 8 := by decide +kernel



end Go.Proofs.Ythlbplmghjaeoae

/- Counts by the model: a board by its number. -/
namespace Go.Proofs.Ythlbplmghjaeoae
open Go.RowKit

/-- The cells of the board with a number. -/
def ctB (n m : Nat) : List UInt8 := (List.range n).map fun i => if m.testBit (n - 1 - i) = true then 46 else 42
theorem ctB_length (n m : Nat) : (ctB n m).length = n := by simp [ctB]
theorem ctB_snoc (n m j : Nat) (h : j < n) : (ctB n m).take (j + 1) = (ctB n m).take j ++ [if m.testBit (n - 1 - j) = true then 46 else 42] := by
  rw [List.take_succ_eq_append_getElem (by rw [ctB_length]; exact h)]
  simp [ctB]

theorem bit_zero (m q : Nat) (hm : m < 4096) : (bits BinOp.and IntKind.i64 ((m : Int) / 2 ^ q) 1 == 0) = !m.testBit q := by
  have e : (m : Int) / 2 ^ q = ((m / 2 ^ q : Nat) : Int) := by simp
  have h : m / 2 ^ q ≤ m := Nat.div_le_self _ _
  rw [e, and_one _ (by omega), Nat.testBit_eq_decide_div_mod_eq]
  have h2 : m / 2 ^ q % 2 = 0 ∨ m / 2 ^ q % 2 = 1 := by omega
  rcases h2 with h2 | h2 <;> rw [h2] <;> rfl

set_option maxRecDepth 100000 in
set_option maxHeartbeats 800000 in
theorem ctBoard_any (n m : Nat) (hn : n ≤ 12) (hm : m < 4096) (wr : World) :
    Calls Try.prog 65 #[.int .i64 n, .int .i64 m] wr fun e w' => e = .returned (.string ⟨(ctB n m).toArray⟩) ∧ wr = w' := by
  go_enter Try.func65, Try.ntmps65
  go_wp2_with fail
  go_loop [5, 6] (fun o i => ∃ j : Nat, j ≤ n ∧ i = .int .i64 ((n : Int) - 1 - j) ∧ o = .string ⟨((ctB n m).take j).toArray⟩) (fun _ i => ((intOf i) + 1).toNat)
  case atStart => exact ⟨0, by omega, by simp, rfl⟩
  case round =>
    obtain ⟨j, hj, rfl, rfl⟩ := hrel
    by_cases hlt : j < n
    · have hs := ctB_snoc n m j hlt
      obtain ⟨q, hq⟩ : ∃ q : Nat, (n : Int) - 1 - j = q := ⟨n - 1 - j, by omega⟩
      have hq2 : n - 1 - j = q := by omega
      rw [hq2] at hs
      have hq3 : (n : Int) - 1 - ((j + 1 : Nat) : Int) = (q : Int) - 1 := by omega
      rw [hq]
      have HQ := Lib.hid hq3
      have HS := Lib.hid hs
      have hq12 : q ≤ 11 := by omega
      have hbz := bit_zero m q hm
      cases hb : m.testBit q with
      | true =>
        rw [hb] at hbz HS
        clear hq hq2 hq3 hs hb
        go_wp2_with fail
        go_round
        case rel => exact ⟨j + 1, by omega, by rw [HQ.out], by rw [HS.out] <;> rfl⟩
        case measure => simp [intOf] <;> omega
      | false =>
        rw [hb] at hbz HS
        clear hq hq2 hq3 hs hb
        go_wp2_with fail
        go_round
        case rel => exact ⟨j + 1, by omega, by rw [HQ.out], by rw [HS.out] <;> rfl⟩
        case measure => simp [intOf] <;> omega
    · obtain rfl : j = n := by omega
      have HE : Hid ((ctB j m).take j = ctB j m) := List.take_of_length_le (by rw [ctB_length]; omega)
      have h0 : (j : Int) - 1 - j = -1 := by omega
      rw [h0]
      clear h0
      go_wp2_with fail
      go_ret
      exact ⟨by rw [HE.out] <;> rfl, rfl⟩
end Go.Proofs.Ythlbplmghjaeoae

/- Counts by the model: all boards of so many cells. -/
namespace Go.Proofs.Ythlbplmghjaeoae
open Go.RowKit

/-- Has a board so many mines, where any number may be told? -/
def mnB (mines : Int) (cells : List UInt8) : Bool := decide (mines < 0) || decide (((places 42 cells).length : Int) = mines)
/-- The first boards of so many cells, in order, and all. -/
def allK (n : Nat) (mines : Int) (k : Nat) : List (List UInt8) := ((List.range k).map (ctB n)).filter (mnB mines)
def allM (n : Nat) (mines : Int) : List (List UInt8) := allK n mines (2 ^ n)
theorem allK_snoc (n : Nat) (mines : Int) (k : Nat) : allK n mines (k + 1) = allK n mines k ++ (if mnB mines (ctB n k) = true then [ctB n k] else []) := by
  rw [allK, List.range_succ, List.map_append, List.filter_append, allK]
  simp [List.filter_cons]
theorem allK_le (n : Nat) (mines : Int) (k : Nat) : (allK n mines k).length ≤ k := by
  refine Nat.le_trans (List.length_filter_le _ _) ?_
  simp
theorem pow12 {n : Nat} (h : n ≤ 12) : 1 ≤ 2 ^ n ∧ 2 ^ n ≤ 4096 := ⟨Nat.one_le_two_pow, Nat.pow_le_pow_right (by decide) h⟩
theorem allM_le (n : Nat) (mines : Int) (hn : n ≤ 12) : (allM n mines).length ≤ 4096 := Nat.le_trans (allK_le _ _ _) (pow12 hn).2
theorem allM_len {n : Nat} {mines : Int} {c : List UInt8} (h : c ∈ allM n mines) : c.length = n := by
  obtain ⟨h1, _⟩ := List.mem_filter.1 h
  obtain ⟨m, _, rfl⟩ := List.mem_map.1 h1
  exact ctB_length n m

set_option maxRecDepth 100000 in
set_option maxHeartbeats 1600000 in
theorem ctAll_any (n : Nat) (mines : Int) (hn : n ≤ 12) (w : World) :
    Calls Try.prog 40 #[.int .i64 n, .int .i64 mines] w fun e w' => ∃ a cap, e = .returned (.slice a (allM n mines).length cap) ∧ Owns w' w.heap.size 9 (.slice a (allM n mines).length cap) (txts (allM n mines)) ∧ Below w.heap.size w w' := by
  obtain ⟨hp1, hp2⟩ := pow12 hn
  have hM : allM n mines = allK n mines (2 ^ n) := rfl
  have HM := Lib.hid hM
  have hpz : (1 : Int) * 2 ^ n = ((2 ^ n : Nat) : Int) := by simp
  have HCB := Lib.hid (fun k w (hk : k < 4096) => ctBoard_any n k hn hk w)
  have HBM := Lib.hid (fun k w => boMines_any (ctB n k) 42 42 rfl w (by rw [ctB_length]; omega))
  have HLK := Lib.hid (allK_le n mines)
  have HSN := Lib.hid (allK_snoc n mines)
  have HLB := Lib.hid (fun k => placesGo_le 42 (ctB n k) 0)
  have HMB : Hid (∀ c, mnB mines c = (decide (mines < 0) || decide (((places 42 c).length : Int) = mines))) := fun _ => rfl
  generalize allM n mines = A at *
  generalize hpn : 2 ^ n = p at *
  have HPN := Lib.hid hpn
  clear hM hpn
  go_enter Try.func40, Try.ntmps40
  go_wp2_with fail
  go_loopw [5, 6] (fun o i wr => ∃ k : Nat, k ≤ p ∧ i = .int .i64 k ∧ Owns wr w.heap.size 9 o (txts (allK n mines k)) ∧ Below w.heap.size w wr) (fun _ i _ => p - (intOf i).toNat)
  case atStart => exact ⟨0, by omega, rfl, Owns.nil _ _ _, Below.refl _ _⟩
  case round =>
    obtain ⟨k, hk, rfl, hown, hb⟩ := hrel
    by_cases hlt : k < p
    · have hl := HLK.out k
      have hbs := hb.size
      have HS := Lib.hid (HSN.out k)
      have HB := Lib.hid (HMB.out (ctB n k))
      by_cases hneg : mines < 0
      · have hy : mnB mines (ctB n k) = true := by rw [HB.out]; simp [hneg]
        rw [if_pos hy] at HS
        have HE : Hid (txts (allK n mines (k + 1)) = txts (allK n mines k) ++ [.string ⟨(ctB n k).toArray⟩]) := by rw [Hid, HS.out]; simp [txts]
        clear hy
        go_wp2_with fail
        refine (HCB.out k _ (by omega)).mono ?_
        rintro e w1 ⟨rfl, rfl⟩
        go_wp2_with (at_builtin; refine wpList_app1 rfl _ _ _ rfl _ _ _ _ elemStr _ _ _ _ rfl rfl rfl hown rfl (by simp; omega) hbs (by simp; omega) ?_; intro v1 w1 hown1 hb1 hs1)
        rw [← HE.out] at hown1
        go_roundw
        case rel => exact ⟨k + 1, by omega, by go_num, hown1, hb.trans hb1⟩
        case measure => simp [intOf]; omega
      · have hge : 0 ≤ mines := by omega
        clear hneg
        cases hm : mnB mines (ctB n k) with
        | true =>
          have hd : (((places 42 (ctB n k)).length : Int) == mines) = true := by
            rw [HB.out] at hm
            simp at hm
            rcases hm with hm | hm
            · omega
            · simp [hm]
          rw [if_pos hm] at HS
          have HE : Hid (txts (allK n mines (k + 1)) = txts (allK n mines k) ++ [.string ⟨(ctB n k).toArray⟩]) := by rw [Hid, HS.out]; simp [txts]
          have hpl := HLB.out k
          clear hm
          go_wp2_with fail
          refine (HCB.out k _ (by omega)).mono ?_
          rintro e w1 ⟨rfl, rfl⟩
          go_wp2_with fail
          refine (HBM.out k _).mono ?_
          rintro e w2 ⟨a2, c2, rfl, ho2, hb2⟩
          have hb02 := hb.trans (hb2.mono hbs)
          have hown2 := hown.later hb2
          have hs2 := hb02.size
          clear ho2 hb2 hown
          go_wp2_with (at_builtin; refine wpList_app1 rfl _ _ _ rfl _ _ _ _ elemStr _ _ _ _ rfl rfl rfl hown2 rfl (by simp; omega) hs2 (by simp; omega) ?_; intro v1 w3 hown1 hb1 hs1)
          rw [← HE.out] at hown1
          go_roundw
          case rel => exact ⟨k + 1, by omega, by go_num, hown1, hb02.trans hb1⟩
          case measure => simp [intOf]; omega
        | false =>
          have hd : (((places 42 (ctB n k)).length : Int) == mines) = false := by
            rw [HB.out] at hm
            simp at hm
            simp [hm.2]
          rw [hm] at HS
          have HE : Hid (allK n mines (k + 1) = allK n mines k) := by rw [Hid, HS.out]; simp
          have hpl := HLB.out k
          clear hm
          go_wp2_with fail
          refine (HCB.out k _ (by omega)).mono ?_
          rintro e w1 ⟨rfl, rfl⟩
          go_wp2_with fail
          refine (HBM.out k _).mono ?_
          rintro e w2 ⟨a2, c2, rfl, ho2, hb2⟩
          have hb02 := hb.trans (hb2.mono hbs)
          have hown2 := hown.later hb2
          clear ho2 hb2 hown
          go_wp2_with fail
          go_roundw
          case rel => exact ⟨k + 1, by omega, by go_num, by rw [HE.out]; exact hown2, hb02⟩
          case measure => simp [intOf]; omega
    · obtain rfl : k = p := by omega
      have HE : Hid (A = allK n mines k) := HM
      go_wp2_with fail
      go_ret
      obtain ⟨a, cap, hv⟩ := hown.shape
      simp only [txts, List.length_map] at hv
      exact ⟨a, cap, by rw [HE.out, ← hv]; rfl, by rw [HE.out, ← hv]; exact hown, hb⟩
end Go.Proofs.Ythlbplmghjaeoae
