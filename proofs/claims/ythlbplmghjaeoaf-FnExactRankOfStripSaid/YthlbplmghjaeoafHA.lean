/- Strips: the ways in which lists of mines fit, by the program. -/
import Derived.Test.YthlbplmghjaeoafH9
namespace Go.Proofs.Ythlbplmghjaeoaf
open Go.RowKit

theorem ar_string (s : List UInt8) : (⟨#[46]⟩ : ByteArray) ++ ⟨s.toArray⟩ ++ ⟨#[46]⟩ = ⟨(arM s).toArray⟩ := by
  apply ByteArray.ext
  simp [arM]

theorem enterFit (args : Array Value) (w : World) : (callFunc 21 args).run Try.prog w = .ok (.enter 21 args) w := by kernel_rfl
set_option maxRecDepth 100000 in
set_option maxHeartbeats 3200000 in
theorem fittingWays_any (s told : List UInt8) (w : World) (hs : s.length ≤ 40) (hl : told.length ≤ 1048576) :
    Calls Try.prog 10 #[.string ⟨s.toArray⟩, .string ⟨told.toArray⟩] w fun e w' => e = .returned (.agg (wvA (fitW s told))) ∧ Below w.heap.size w w' := by
  have hz := fun w => wvZero w
  have har := ar_string s
  have hmax : ¬ (9223372036854775807 < 1 + s.length) := by omega
  have hmax2 : ¬ (9223372036854775807 < 1 + s.length + 1) := by omega
  go_enter Try.func10, Try.ntmps10
  go_upto_region 1 with fail
  obtain ⟨w2, hw2⟩ : ∃ w2, w2 = (w.alloc (.cells #[.string ⟨told.toArray⟩] 9)).alloc (.cells (wvA fun _ => 0) 29) := ⟨_, rfl⟩
  obtain ⟨hb0, hB0, hB1, hs2⟩ := alloc2 w _ _ hw2
  rw [← hw2]
  clear hw2
  have HS2 := Lib.hid hs2
  have HB0 := Lib.hid hB0
  have HB1 := Lib.hid hB1
  clear hs2 hB0 hB1
  go_upto_region 2 with fail
  obtain ⟨w3, hw3⟩ : ∃ w3, w3 = w2.alloc (.cells #[.string ⟨(arM s).toArray⟩] 9) := ⟨_, rfl⟩
  have hb3 : Below w2.heap.size w2 w3 := by rw [hw3]; exact (Below.refl _ _).alloc (Nat.le_refl _) _
  have hA3 : w3.heap[w2.heap.size]? = some (.cells #[.string ⟨(arM s).toArray⟩] 9 (0, 0)) := by rw [hw3]; exact heap_alloc_new w2 _
  rw [show w2.alloc (.cells #[.string ⟨(46 :: (s ++ [46])).toArray⟩] 9) = w3 from hw3.symm]
  clear hw3
  have hT3 := (hb3.block _ (by have := HS2.out; omega)).trans HB0.out
  have hR3 := (hb3.block _ (by have := HS2.out; omega)).trans HB1.out
  have hb03 : Below w.heap.size w w3 := hb0.trans (hb3.mono (by have := HS2.out; omega))
  have ha3 := block_lt hA3
  have ht3 := block_lt hT3
  have hsum := sumWays_any (nextM s told) 21 #[.pointer (some ⟨w.heap.size, 0, none⟩), .pointer (some ⟨w2.heap.size, 0, none⟩)] (s.length + 1) ((false, false) : Bool × Bool) w3 (by omega) (fun args w' => enterFit args w') (fun e c m => by show m.toNat ≤ 40; cases m <;> decide)
    (fun w' e c m hb hc => fitStep_any s told w.heap.size w2.heap.size e.1 e.2 m c w' ((hb.block _ ht3).trans hT3) ((hb.block _ ha3).trans hA3) (by omega) hs hl)
  rw [show ((s.length + 1 : Nat) : Int) = (s.length : Int) + 1 by omega] at hsum
  have HSUM := Lib.hid hsum
  have HR3 := Lib.hid hR3
  clear hsum hT3 hA3 hR3 HB0 HB1
  go_wp2_with fail
  refine (show _ from HSUM.out).mono ?_
  rintro r w5 ⟨rfl, hb5⟩
  have HR5 := Lib.hid ((hb5.block _ (block_lt HR3.out)).trans HR3.out)
  go_wp2_with (first
    | (refine wpList_store_row rfl _ _ _ rfl (w.heap.size + 1) (wvA (fitW s told)) rfl rfl 29 _ HR5.out (wvInfoA _) (by rw [wvA_size, wvA_size]) (wvA_one _) ?_))
  have hlv := run_loadVar_row (P := Try.prog) (w5.setRow (w.heap.size + 1) (wvA (fitW s told))) (w.heap.size + 1) 29 29 (wvA (fitW s told)) (0, 0) _ (setRow_heap w5 _ _ _ _ _ HR5.out) Try.underlying29 rfl (wvInfoA _)
  refine bodyPost_ret (v := .agg (wvA (fitW s told))) ?_ rfl ⟨rfl, below_setRow (hb03.trans (hb5.mono hb03.size)) (by omega) _⟩
  simp [results, Try.results10, asAddr, Act.put, hlv]
theorem fitW_total (s told : List UInt8) : sumN 41 (fitW s told) ≤ 2 ^ (s.length + 1) := goS_total _ _ _ _ _
theorem fitW_tot40 (s told : List UInt8) (h : s.length ≤ 40) : sumN 41 (fitW s told) ≤ 4611686018427387904 :=
  Nat.le_trans (fitW_total s told) (Nat.le_trans (Nat.pow_le_pow_right (by decide) (show s.length + 1 ≤ 41 by omega)) (by decide))
end Go.Proofs.Ythlbplmghjaeoaf
