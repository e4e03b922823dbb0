/- Strips: how a list of mines goes on by a cell, by the program. -/
import Derived.Test.YthlbplmghjaeoafH6
import Derived.Outline
import Derived.IntWalk
namespace Go.Proofs.Ythlbplmghjaeoaf
open Go.RowKit

/-- An end: the signs of two cells. -/
def encE (e : Bool × Bool) : Value := .agg #[.int .u8 ((sgM e.1).toNat : Int), .int .u8 ((sgM e.2).toNat : Int)]
theorem arA_get (s : List UInt8) {i : Nat} (h : i < (arM s).length) : (arM s)[i] = arA s i := by simp [arA, List.getD, h]
theorem arM_length (s : List UInt8) : (arM s).length = s.length + 2 := by simp [arM]

set_option maxRecDepth 100000 in
set_option maxHeartbeats 3200000 in
theorem fitStep_any (s told : List UInt8) (bt ba : Nat) (p q m : Bool) (c : Nat) (w : World) (hT : w.heap[bt]? = some (.cells #[.string ⟨told.toArray⟩] 9 (0, 0))) (hA : w.heap[ba]? = some (.cells #[.string ⟨(arM s).toArray⟩] 9 (0, 0)))
    (hc : c ≤ s.length) (hs : s.length ≤ 40) (hl : told.length ≤ 1048576) :
    Calls Try.prog 21 #[encE (p, q), .int .i64 (c : Int), .int .u8 ((sgM m).toNat : Int), .pointer (some ⟨bt, 0, none⟩), .pointer (some ⟨ba, 0, none⟩)] w fun e w' => e = .returned (.tuple #[encE (q, m), .int .i64 (m.toNat : Int), .bool (tdB told c m && (msB (arA s (c + 1)) m && mnB (arA s c) (p.toNat + m.toNat)))]) ∧ Below w.heap.size w w' := by
  have hmi := fun (m : Bool) w => minesIn_any m w
  have htd := fun w => isToldSign_any told c m w hl (by omega)
  have hms := fun w => mayHaveSign_any (arA s (c + 1)) m w
  have hmn := fun w => mayHaveNumber_any (arA s c) (p.toNat + m.toNat) w (by cases p <;> cases m <;> decide)
  have hal := arM_length s
  have g1 := fun h : c < (arM s).length => arA_get s h
  have g2 := fun h : c + 1 < (arM s).length => arA_get s h
  obtain ⟨pn, hpn⟩ : ∃ n, n = p.toNat := ⟨_, rfl⟩
  obtain ⟨mn, hmn0⟩ : ∃ n, n = m.toNat := ⟨_, rfl⟩
  have hp1 : pn ≤ 1 := by cases p <;> simp at hpn <;> omega
  have hm1 : mn ≤ 1 := by cases m <;> simp at hmn0 <;> omega
  have hmip := fun w => hmi p w
  have hmim := fun w => hmi m w
  rw [← hpn] at hmip
  rw [← hmn0] at hmim
  rw [← hpn, ← hmn0] at hmn
  rw [← hpn, ← hmn0]
  clear hmi hpn hmn0
  unfold encE
  simp only
  generalize ((sgM p).toNat : Int) = sp at *
  generalize ((sgM q).toNat : Int) = sq at *
  generalize ((sgM m).toNat : Int) = sm at *
  generalize tdB told c m = bT at *
  generalize msB (arA s (c + 1)) m = bM at *
  generalize mnB (arA s c) (pn + mn) = bN at *
  generalize arA s c = ac at *
  generalize arA s (c + 1) = ad at *
  generalize arM s = ar at *
  have HT := Lib.hid hT
  have HA := Lib.hid hA
  have HAL := Lib.hid hal
  have HTD := Lib.hid htd
  have HMS := Lib.hid hms
  have HMN := Lib.hid hmn
  have HMP := Lib.hid hmip
  have HMM := Lib.hid hmim
  have hal2 : c + 1 < ar.length := by omega
  have hal1 : c < ar.length := by omega
  have G1 := g1 hal1
  have G2 := g2 hal2
  clear g1 g2
  have hb1 := block_lt hT
  have hb2 := block_lt hA
  clear hT hA hal htd hms hmn hmip hmim
  go_enter Try.func21, Try.ntmps21
  go_upto_region 1 with fail
  obtain ⟨w2, hw2⟩ : ∃ w2, w2 = (w.alloc (.cells #[.int .u8 sp, .int .u8 sq] 44)).alloc (.cells #[.int .u8 0, .int .u8 0] 44) := ⟨_, rfl⟩
  obtain ⟨hb0, hB0, hB1, hs2⟩ := alloc2 w _ _ hw2
  rw [← hw2]
  clear hw2
  have hTb := (hb0.block _ hb1).trans HT.out
  have hAb := (hb0.block _ hb2).trans HA.out
  have hT0 := cell_of_block hTb 0
  have hA0 := cell_of_block hAb 0
  have hE0 := cell_of_block hB0 0
  have hE1 := cell_of_block hB0 1
  have hF0 := frozen_of_block hB1 0
  have hF1 := frozen_of_block hB1 1
  have hD0 := cell_of_block hB1 0
  have hD1 := cell_of_block hB1 1
  simp at hT0 hA0 hE0 hE1 hD0 hD1
  have HB1 := Lib.hid hB1
  have HS2 := Lib.hid hs2
  clear hTb hAb hB0 hB1 hs2
  have hE1d : w2.drew.cell? ⟨w.heap.size, 1, none⟩ = some (.int .u8 sq) := hE1
  have hD0d : w2.drew.cell? ⟨w.heap.size + 1, 0, none⟩ = some (.int .u8 0) := hD0
  have hD1d : w2.drew.cell? ⟨w.heap.size + 1, 1, none⟩ = some (.int .u8 0) := hD1
  have hF0d : w2.drew.frozen? ⟨w.heap.size + 1, 0, none⟩ = false := hF0
  have hF1d : w2.drew.frozen? ⟨w.heap.size + 1, 1, none⟩ = false := hF1
  have hlv := run_loadVar_row (P := Try.prog) ((w2.setCell ⟨w.heap.size + 1, 0, none⟩ (.int .u8 sq)).setCell ⟨w.heap.size + 1, 1, none⟩ (.int .u8 sm)).drew (w.heap.size + 1) 44 44 #[.int .u8 sq, .int .u8 sm] (0, 0) _ (by
    have x := block_set (block_set HB1.out 0 (.int .u8 sq)) 1 (.int .u8 sm)
    exact x) Try.underlying44 rfl (by kernel_rfl)
  have hbf : Below w.heap.size w ((w2.setCell ⟨w.heap.size + 1, 0, none⟩ (.int .u8 sq)).setCell ⟨w.heap.size + 1, 1, none⟩ (.int .u8 sm)).drew := ((hb0.trans ((Below.set 0 _).mono (by omega))).trans ((Below.set 1 _).mono (by omega))).drew
  go_wp2_with fail
  refine (HMP.out _).mono ?_
  rintro e w3 ⟨rfl, rfl⟩
  go_wp2_with fail
  refine (HMM.out _).mono ?_
  rintro e w3 ⟨rfl, rfl⟩
  go_wp2_with fail
  refine (HTD.out _).mono ?_
  rintro e w3 ⟨rfl, rfl⟩
  cases bT with
  | false =>
    clear HMS HMN
    go_upto_region 3 with fail
    go_region_law (first | (go_simp; go_at_call 22; refine (HMM.out _).mono ?_; rintro e w4 ⟨rfl, rfl⟩))
    all_goals
      go_wp2_with fail
      refine bodyPost_ret (v := .tuple #[.agg #[.int .u8 sq, .int .u8 sm], .int .i64 (mn : Int), .bool false]) ?_ rfl ⟨rfl, ?_⟩
      · simp [results, Try.results21, asAddr, Act.put, hlv]
      · exact hbf
  | true =>
    go_wp2_with fail
    refine (HMS.out _).mono ?_
    rintro e w3 ⟨rfl, rfl⟩
    cases bM with
    | false =>
      go_upto_region 3 with fail
      go_region_law (first | (go_simp; go_at_call 22; refine (HMM.out _).mono ?_; rintro e w4 ⟨rfl, rfl⟩))
      all_goals
        go_wp2_with fail
        refine bodyPost_ret (v := .tuple #[.agg #[.int .u8 sq, .int .u8 sm], .int .i64 (mn : Int), .bool false]) ?_ rfl ⟨rfl, ?_⟩
        · simp [results, Try.results21, asAddr, Act.put, hlv]
        · exact hbf
    | true =>
      go_wp2_with fail
      refine (HMN.out _).mono ?_
      rintro e w3 ⟨rfl, rfl⟩
      go_upto_region 3 with fail
      go_region_law (first | (go_simp; go_at_call 22; refine (HMM.out _).mono ?_; rintro e w4 ⟨rfl, rfl⟩))
      all_goals
        go_wp2_with fail
        refine bodyPost_ret (v := .tuple #[.agg #[.int .u8 sq, .int .u8 sm], .int .i64 (mn : Int), .bool bN]) ?_ rfl ⟨rfl, ?_⟩
        · simp [results, Try.results21, asAddr, Act.put, hlv]
        · exact hbf
end Go.Proofs.Ythlbplmghjaeoaf
