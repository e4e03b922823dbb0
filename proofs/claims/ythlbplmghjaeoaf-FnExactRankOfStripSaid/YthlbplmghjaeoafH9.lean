/- Strips: the ways to go on from an end, by the program. -/
import Derived.Test.YthlbplmghjaeoafH8
import Derived.Test.YthlbplmghjaeoafQ3
import Derived.Outline
import Derived.Deep.LoopGhost
import Derived.Deep.MidRow
import Derived.Deep.DeepCutAuto
import Derived.Lib.SlBytesConst
namespace Go.Proofs.Ythlbplmghjaeoaf
open Go.RowKit

theorem cellsLS0 (w : World) : (zeroValue 44).run Try.prog w = .ok (.agg #[.int .u8 0, .int .u8 0]) w := by kernel_rfl
theorem wvBuiltOne (f : Nat → Nat) (h : ∀ k, k < 41 → f k = oneAt0 k) : Try.prog.built 29 [(0, .int .i64 1)] = some (wvA f) := by
  rw [wvA_congr h]; kernel_rfl

section
variable {ε : Type}
/-- How many ends are still to come. -/
def pcnt (ends : List ε) (T : ε → Bool) : Nat := sumE ends fun e => if T e = true then 1 else 0
theorem pcnt_le (T : ε → Bool) : ∀ ends : List ε, pcnt ends T ≤ ends.length
  | [] => Nat.le_refl _
  | e :: r => by
    have ih := pcnt_le T r
    unfold pcnt sumE at ih ⊢
    simp only [List.map_cons, List.sum_cons, List.length_cons]
    split <;> omega
theorem pcnt_strike [DecidableEq ε] {ends : List ε} (hn : ends.Nodup) {a : ε} (ha : a ∈ ends) (T : ε → Bool) (hT : T a = true) : pcnt ends T = 1 + pcnt ends (fun e => T e && !decide (e = a)) := sumE_strike hn ha T hT _
/-- What the signs still to come add for an end. -/
def remC (next : ε → Nat → Bool → ε × Nat × Bool) (φ : ε → Nat → Nat) (c : Nat) (p : ε) (o : Nat → Nat) (j k : Nat) : Nat :=
  (if j = 0 then conv o (contS next φ c p true) k else 0) + (if j ≤ 1 then conv o (contS next φ c p false) k else 0)
theorem remC_step (next : ε → Nat → Bool → ε × Nat × Bool) (φ : ε → Nat → Nat) (c : Nat) (p : ε) (o : Nat → Nat) (k : Nat) {j : Nat} (hj : j < 2) :
    remC next φ c p o j k = conv o (contS next φ c p (decide (j = 0))) k + remC next φ c p o (j + 1) k := by
  unfold remC
  match j, hj with
  | 0, _ => simp
  | 1, _ => simp
theorem remC_end (next : ε → Nat → Bool → ε × Nat × Bool) (φ : ε → Nat → Nat) (c : Nat) (p : ε) (o : Nat → Nat) (k : Nat) : remC next φ c p o 2 k = 0 := by simp [remC]
theorem remC_start (next : ε → Nat → Bool → ε × Nat × Bool) (n c : Nat) (p : ε) (o : Nat → Nat) (k : Nat) : remC next (goS next n (c + 1)) c p o 0 k = conv o (goS next (n + 1) c p) k := by
  unfold remC
  simp only [if_true, Nat.zero_le]
  rw [← conv_addR]; rfl
theorem pot_step [DecidableEq ε] {ends : List ε} (hn : ends.Nodup) (ha : ∀ e, e ∈ ends) (next : ε → Nat → Bool → ε × Nat × Bool) (φ : ε → Nat → Nat) (c : Nat) (p : ε) (m : Bool) (f : ε → Nat → Nat) (o : Nat → Nat) (k : Nat) (hok : (next p c m).2.2 = true) :
    pot ends (addE f (next p c m).1 o (next p c m).2.1) φ k = pot ends f φ k + conv o (contS next φ c p m) k := by
  rw [pot_addE hn (ha _), conv_contS, if_pos hok]
theorem conv_no (next : ε → Nat → Bool → ε × Nat × Bool) (φ : ε → Nat → Nat) (c : Nat) (p : ε) (m : Bool) (o : Nat → Nat) (k : Nat) (hok : (next p c m).2.2 = false) : conv o (contS next φ c p m) k = 0 := by
  rw [conv_contS, hok]; rfl
end

theorem rangeOf {w : World} {g : Nat} {cs : List Value} {t : TypeId} {fr : Nat × Nat} (h : w.heap[g]? = some (.cells cs.toArray t fr)) : w.rangeAt g 0 cs := fun j v hv => by
  rw [Nat.zero_add, cell_of_block h]
  simpa using hv
set_option maxRecDepth 100000 in
set_option maxHeartbeats 6400000 in
theorem sumWays_any (next : LS → Nat → Bool → LS × Nat × Bool) (F : Nat) (cp : Array Value) (N : Nat) (start : LS) (w : World) (hN : N ≤ 41) (hE : ∀ (args : Array Value) (w' : World), (callFunc F args).run Try.prog w' = .ok (.enter F args) w')
    (hadd : ∀ e c m, (next e c m).2.1 ≤ 40)
    (hf : ∀ (w' : World) (e : LS) (c : Nat) (m : Bool), Below w.heap.size w w' → c < N → Calls Try.prog F (#[encE e, .int .i64 (c : Int), .int .u8 ((sgM m).toNat : Int)] ++ cp) w' fun r w'' => r = .returned (.tuple #[encE (next e c m).1, .int .i64 ((next e c m).2.1 : Int), .bool (next e c m).2.2]) ∧ Below w'.heap.size w' w'') :
    Calls Try.prog 20 #[encE start, .int .i64 (N : Int), .func (.func F) #[] cp] w fun e w' => e = .returned (.agg (wvA (goS next N 0 start))) ∧ Below w.heap.size w w' := by
  have HF := Lib.hid hf
  clear hf
  have hz := fun w => wvZero w
  have hmm := @run_makeMap Try.prog
  have hbt : Try.prog.built 29 [(0, .int .i64 1)] = some (wvA oneAt0) := wvBuiltOne _ (fun _ _ => rfl)
  obtain ⟨es, hes⟩ : ∃ v, v = encE start := ⟨_, rfl⟩
  have hes2 : ∃ a b, encE start = .agg #[.int .u8 a, .int .u8 b] := ⟨_, _, rfl⟩
  obtain ⟨sa, sb, hsab⟩ := hes2
  rw [hsab]
  go_enter Try.func20, Try.ntmps20
  go_upto_region 1 with fail
  obtain ⟨w2, hw2⟩ : ∃ w2, w2 = (w.alloc (.cells #[.int .u8 sa, .int .u8 sb] 44)).alloc (.cells (wvA fun _ => 0) 29) := ⟨_, rfl⟩
  obtain ⟨hb0, hB0, hB1, hs2⟩ := alloc2 w _ _ hw2
  rw [← hw2]
  clear hw2
  have hMm := VM.made keyLS w2
  have hbm : Below w2.heap.size w2 (w2.alloc (.map #[] 0)) := (Below.refl _ _).alloc (Nat.le_refl _) _
  have hsm : (w2.alloc (.map #[] 0)).heap.size = w2.heap.size + 1 := by simp
  rw [hs2] at hMm hbm hsm
  have hB0' := (hbm.block _ (by omega)).trans hB0
  have hB1' := (hbm.block _ (by omega)).trans hB1
  have hc0 := cell_of_block hB0' 0
  have hc1 := cell_of_block hB0' 1
  simp at hc0 hc1
  have hone : (wvA fun _ => 0).setIfInBounds 0 (.int .i64 1) = wvA oneAt0 := by
    rw [show (Value.int .i64 1) = .int .i64 ((1 : Nat) : Int) from rfl, wvA_set _ _ _ (by omega)]
    rfl
  obtain ⟨w3, hrun, hM3, ht3⟩ := VM.put_run keyLS 59 29 Try.underlying59 (w.heap.size + 2) 0 _ hMm start trivial (.agg (wvA oneAt0)) (by omega)
  rw [show keyLS.enc start = encE start from rfl, hsab, ← hone] at hrun
  have hB0 := (ht3.block _ (by omega) (by simp)).trans hB0'
  have hB1 := (ht3.block _ (by omega) (by simp)).trans hB1'
  have hb3 : Below w.heap.size w w3 := (hb0.trans (hbm.mono (by omega))).trans (ht3.below (by omega) (by omega))
  have hs3 := ht3.size
  have hl3 := hM3.lt keyLS
  have HB1 := Lib.hid hB1
  have HM3 := Lib.hid hM3
  have HB3 := Lib.hid hb3
  have HONE := Lib.hid hone
  have HBT := Lib.hid hbt
  clear hB0' hB1' hB0 hB1 hMm hM3 hone hb3 hbm ht3 hb0 hsm hes hbt
  go_wp2_with fail
  rw [HONE.out]
  clear hrun
  have hM0 : Hid (WaysOf (putF (fun _ => none) start (.agg (wvA oneAt0))) (addE (fun _ _ => 0) start oneAt0 0)) := by
    have x := (WaysOf.nil (ε := LS)).put start oneAt0 0
    rw [show (fun j => (0 : Nat) + shiftF oneAt0 0 j) = oneAt0 by funext j; rw [shiftF_nil, Nat.zero_add]] at x
    exact x
  have hP0 : Hid (∀ k, k < 41 → pot endsLS (addE (fun _ _ => 0) start oneAt0 0) (goS next (N - 0) 0) k = goS next N 0 start k) := by
    intro k _
    rw [pot_addE endsLS_nodup (endsLS_all _), shiftF_nil, conv_one_l, Nat.sub_zero]
    unfold pot
    rw [sumE_congr (G := fun _ => 0) (fun e _ => conv_zero _ _), sumE_zero, Nat.zero_add]
  have hT0 : tot 41 endsLS (addE (fun _ _ => 0) start oneAt0 0) ≤ 2 ^ 0 := by
    refine Nat.le_trans (tot_addE endsLS_nodup (endsLS_all _) _ _ _ _) ?_
    unfold tot
    rw [sumE_congr (G := fun _ => 0) (fun e _ => sumN_zero _), sumE_zero]
    decide
  generalize Value.agg (wvA oneAt0) = vx
  generalize putF (fun _ => none) start vx = M0 at *
  go_loopw [7, 25] (fun v i wr => ∃ (c b n : Nat) (M : LS → Option Value) (h : LS → Nat → Nat), c ≤ N ∧ i = .int .i64 c ∧ v = .map (some b) ∧ w.heap.size + 2 ≤ b ∧ n ≤ 8 ∧ Hid (VM keyLS wr b n M) ∧ Hid (WaysOf M h) ∧ Hid (∀ k, k < 41 → pot endsLS h (goS next (N - c) c) k = goS next N 0 start k) ∧ tot 41 endsLS h ≤ 2 ^ c ∧ Hid (wr.heap[w.heap.size + 1]? = some (.cells (wvA fun _ => 0) 29 (0, 0))) ∧ Below w.heap.size w wr) (fun _ i _ => N - (intOf i).toNat)
  case atStart => exact ⟨0, _, _, _, _, Nat.zero_le _, rfl, rfl, Nat.le_refl _, by omega, HM3, hM0, hP0, hT0, HB1, HB3.out⟩
  case round =>
    clear hM0 hP0 hT0 HM3 HB1 HB3 hs3 hl3 HBT
    obtain ⟨c, bR, n, M, h, hc, rfl, rfl, hbR, hn, HM, HW, HP, hT, HB1, HB⟩ := hrel
    by_cases hlt : c < N
    · obtain ⟨m, hm⟩ : ∃ m, N - c = m + 1 := ⟨N - c - 1, by omega⟩
      have hm2 : N - (c + 1) = m := by omega
      have hMm := VM.made keyLS wr
      have hbm : Below wr.heap.size wr (wr.alloc (.map #[] 0)) := (Below.refl _ _).alloc (Nat.le_refl _) _
      have hMR := fun o => HM.out.later keyLS ((Below.refl _ wr).alloc (Nat.le_refl _) o)
      have hMlt := HM.out.lt keyLS
      have HMm := Lib.hid hMm
      have HMR := Lib.hid hMR
      have hsm : (wr.alloc (.map #[] 0)).heap.size = wr.heap.size + 1 := by simp
      have hBl := block_lt HB1.out
      have HB1m := Lib.hid ((hbm.block _ hBl).trans HB1.out)
      have HM1 := Lib.hid hm
      have HM2 := Lib.hid hm2
      clear hMm hMR hm hm2 HM HB1
      go_wp2_with (first | (at_range; refine wpList_vm_range keyLS rfl _ _ _ rfl Try.underlying59 bR n M rfl (HMR.out _) ?_; intro w5 cnt hvr hg5 hs5))
      have hF5 : VM keyLS w5 wr.heap.size 0 (fun _ => none) := by
        obtain ⟨D, hD, hD2⟩ := HMm.out
        exact ⟨D, World.ownsMap.kept hD hg5 (by simp), hD2⟩
      have HB5 : Hid (w5.heap[w.heap.size + 1]? = some (.cells (wvA fun _ => 0) 29 (0, 0))) := (hg5.block _ (by omega) (by simp)).trans HB1m.out
      have hb5 : Below w.heap.size w w5 := (HB.trans (hbm.mono HB.size)).trans ⟨hg5.os, hg5.tape, hg5.output, hg5.size, fun k hk => hg5.block k (by omega) (by simp)⟩
      rw [hsm] at hvr hs5
      have hwB := HB.size
      rw [hsm]
      simp only [Act.put, List.setIfInBounds_toArray, List.set_cons_zero, List.set_cons_succ]
      clear HMm HMR hbm hg5 HB1m HB hsm
      have hC0 : Hid (∀ k, k < 41 → pot endsLS (fun _ _ => 0) (goS next m (c + 1)) k + pend endsLS (fun p => (M p).isSome) h (goS next (m + 1) c) k = goS next N 0 start k) := by
        intro k hk
        have h1 : pot endsLS (fun _ _ => 0) (goS next m (c + 1)) k = 0 := by
          unfold pot
          rw [sumE_congr (G := fun _ => 0) (fun e _ => conv_zero _ _), sumE_zero]
        have h2 : pend endsLS (fun p => (M p).isSome) h (goS next (m + 1) c) k = pot endsLS h (goS next (m + 1) c) k := by
          unfold pend pot
          refine sumE_congr fun e _ => ?_
          rcases HW.out e with q | ⟨q, q2⟩
          · rw [if_pos (show (M e).isSome = true by rw [q]; rfl)]
          · rw [if_neg (show ¬ (M e).isSome = true by rw [q]; decide), ← conv_zero (goS next (m + 1) c e) k]
            exact conv_congr (fun i hi => (q2 i (by omega)).symm) (fun _ _ => rfl)
        rw [h1, h2, ← HM1.out, Nat.zero_add]
        exact HP.out k hk
      have hD0 : tot 41 endsLS (fun _ _ => 0) + 2 * totT 41 endsLS (fun p => (M p).isSome) h ≤ 2 ^ (c + 1) := by
        have h1 : tot 41 endsLS (fun _ _ => 0) = 0 := by
          unfold tot
          rw [sumE_congr (G := fun _ => 0) (fun e _ => sumN_zero _), sumE_zero]
        have h2 : totT 41 endsLS (fun p => (M p).isSome) h ≤ tot 41 endsLS h := by
          refine sumE_mono fun e _ => ?_
          split <;> omega
        rw [h1, Nat.pow_succ]
        omega
      have hE0 : 0 + 2 * pcnt endsLS (fun p => (M p).isSome) ≤ 8 := by
        have := pcnt_le (fun p => (M p).isSome) endsLS
        have h4 : endsLS.length = 4 := rfl
        omega
      have h2c : 2 ^ (c + 1) ≤ 2199023255552 := by
        rw [show (2199023255552 : Nat) = 2 ^ 41 by decide]
        exact Nat.pow_le_pow_right (by decide) (by omega)
      generalize hI : wr.heap.size + 1 = I at *
      generalize hBF : wr.heap.size = bF at *
      have HBF := Lib.hid hBF
      clear hBF HP
      obtain ⟨P2, hP2⟩ : ∃ P2, 2 ^ (c + 1) = P2 := ⟨_, rfl⟩
      rw [hP2] at hD0 h2c
      have HP2 := Lib.hid hP2
      clear hP2
      have hbF2 : w.heap.size + 2 ≤ bF := by have := HBF.out; omega
      have hneR : bR ≠ bF := by have := HBF.out; omega
      have hneI : bF < I := by have := HBF.out; omega
      clear hI
      go_loopw [39] (fun _ w6 => ∃ (T : LS → Bool) (cnt nF : Nat) (MF : LS → Option Value) (hF : LS → Nat → Nat), Hid (VR keyLS w6 bR I n M T cnt) ∧ Hid (VM keyLS w6 bF nF MF) ∧ Hid (WaysOf MF hF) ∧ Hid (∀ k, k < 41 → pot endsLS hF (goS next m (c + 1)) k + pend endsLS T h (goS next (m + 1) c) k = goS next N 0 start k) ∧ tot 41 endsLS hF + 2 * totT 41 endsLS T h ≤ P2 ∧ nF + 2 * pcnt endsLS T ≤ 8 ∧ Hid (w6.heap[w.heap.size + 1]? = some (.cells (wvA fun _ => 0) 29 (0, 0))) ∧ Below w.heap.size w w6) (fun _ w6 => w6.rangeLeft bR I)
      case atStart => exact ⟨_, _, _, _, _, hvr, hF5, WaysOf.nil, hC0, hD0, hE0, HB5, hb5⟩
      case round =>
        clear hvr hF5 hC0 hD0 hE0 HB5 hb5
        obtain ⟨T, cnt, nF, MF, hF, HVR, HVF, HWF, HC, hD, hE2, HB1, hb⟩ := hrel
        go_wp2_with (first | (at_next; refine wpList_vm_next keyLS rfl _ rfl bR I n M T cnt rfl HVR.out ?_ ?_))
        case refine_1 =>
          intro h0 hT0
          have HC2 : Hid (∀ k, k < 41 → pot endsLS hF (goS next (N - (c + 1)) (c + 1)) k = goS next N 0 start k) := by
            intro k hk
            have h1 := HC.out k hk
            rw [pend_none (fun e _ => hT0 e trivial), Nat.add_zero] at h1
            rw [HM2.out]; exact h1
          have hT2 : tot 41 endsLS hF ≤ 2 ^ (c + 1) := by rw [HP2.out]; omega
          clear hT0 HC
          go_wp2_with fail
          go_roundw
          case rel => exact ⟨c + 1, bF, nF, MF, hF, by omega, by go_num, rfl, hbF2, by omega, HVF.out, HWF.out, HC2.out, hT2, HB1.out, hb⟩
          case measure => simp [intOf]; omega
        case refine_2 =>
          intro p v w7 cnt7 _ hpT hpM hvr7 hlt7 hg7 hs7 hen
          have hv := HW.out.get hpM
          subst hv
          have hstr := fun k => pend_strike endsLS_nodup (endsLS_all p) T hpT h (goS next (m + 1) c) k
          have htot := totT_strike endsLS_nodup (endsLS_all p) T hpT 41 h
          have hcnt := pcnt_strike endsLS_nodup (endsLS_all p) T hpT
          have HHT := Lib.hid hstr
          have HF7 : Hid (VM keyLS w7 bF nF MF) := by
            obtain ⟨D, hD, hD2⟩ := HVF.out
            exact ⟨D, World.ownsMap.kept hD hg7 (by simp; omega), hD2⟩
          have HB7 := Lib.hid ((hg7.block _ (block_lt HB1.out) (by simp; omega)).trans HB1.out)
          have hb7 : Below w.heap.size w w7 := hb.trans ⟨hg7.os, hg7.tape, hg7.output, hg7.size, fun k hk => hg7.block k (by have := hb.size; omega) (by simp; omega)⟩
          have HMS := Lib.hid HVR.out.left_eq
          have HHM := Lib.hid hpM
          have HG7 := Lib.hid hg7
          obtain ⟨pa, pb, hpe⟩ : ∃ a b, encE p = .agg #[.int .u8 a, .int .u8 b] := ⟨_, _, rfl⟩
          have HPE := Lib.hid hpe
          rw [show keyLS.enc p = encE p from rfl, hpe] at hen ⊢
          clear hstr hpM hg7 HVF HB1 hb HVR HW hpe
          have HS7 := Lib.hid hs7
          clear hs7
          obtain ⟨a1, a2, a3, a4⟩ := alloc2 w7 (.cells #[.int .u8 pa, .int .u8 pb] 44) (.cells (wvA fun _ => 0) 29) rfl
          have A1 := Lib.hid a1
          have A2 := Lib.hid a2
          have A3 := Lib.hid a3
          have A4 := Lib.hid a4
          clear a1 a2 a3 a4
          go_upto_region 9 with (first
            | (refine wpList_store_row rfl _ _ _ rfl (w7.heap.size + 1) (wvA (h p)) rfl rfl 29 _ A3.out (wvInfoA _) (by rw [wvA_size, wvA_size]) (wvA_one _) ?_))
          obtain ⟨w8, hw8⟩ : ∃ w8, w8 = ((w7.alloc (.cells #[.int .u8 pa, .int .u8 pb] 44)).alloc (.cells (wvA fun _ => 0) 29)).setRow (w7.heap.size + 1) (wvA (h p)) := ⟨_, rfl⟩
          have hE8 : w8.heap[w7.heap.size]? = some (.cells #[.int .u8 pa, .int .u8 pb] 44 (0, 0)) := by
            rw [hw8, setRow_other _ _ _ _ (by omega)]
            exact A2.out
          have hW8 : w8.heap[w7.heap.size + 1]? = some (.cells (wvA (h p)) 29 (0, 0)) := by
            rw [hw8]
            exact setRow_heap _ _ _ _ _ _ A3.out
          have hs8 : w8.heap.size = w7.heap.size + 2 := by rw [hw8, size_setRow]; exact A4.out
          have hb78 : Below w7.heap.size w7 w8 := by rw [hw8]; exact below_setRow A1.out (by omega) _
          rw [← hw8]
          clear hw8 A1 A2 A3 A4
          have HS8 := Lib.hid hs8
          clear hs8
          have hcv := Lib.run_convert_bytes_const (P := Try.prog) w8 35 5 #[.int .u8 42, .int .u8 46] 2 2 Try.underlying35 Try.underlying5
          go_wp2_with fail
          clear hcv
          obtain ⟨w9, hw9⟩ : ∃ w9, w9 = w8.alloc (.cells #[.int .u8 42, .int .u8 46] 5 (2, 3)) := ⟨_, rfl⟩
          have hb9 : Below w8.heap.size w8 w9 := by rw [hw9]; exact (Below.refl _ _).alloc (Nat.le_refl _) _
          have hS9 : w9.heap[w8.heap.size]? = some (.cells #[.int .u8 42, .int .u8 46] 5 (2, 3)) := by
            rw [hw9]; show (w8.heap.push _)[w8.heap.size]? = _; simp
          rw [← hw9]
          clear hw9
          have hE9 := Lib.hid ((hb9.block _ (by have := HS8.out; omega)).trans hE8)
          have hW9 := Lib.hid ((hb9.block _ (by have := HS8.out; omega)).trans hW8)
          have hb79 : Below w7.heap.size w7 w9 := hb78.trans (hb9.mono hb78.size)
          have hVR9 := Lib.hid (hvr7.later keyLS hb79)
          have hVF9 := Lib.hid (HF7.out.later keyLS hb79)
          have hB9 := Lib.hid ((hb79.block _ (block_lt HB7.out)).trans HB7.out)
          have hb09 : Below w.heap.size w w9 := hb7.trans (hb79.mono hb7.size)
          have HS9 := Lib.hid hS9
          have hs7w := hb7.size
          have hs8w := HS8.out
          have HN8 := Lib.hid hs8w
          have hIr : I < w7.heap.size := hvr7.ltr keyLS
          have hbFr : bF < w7.heap.size := HF7.out.lt keyLS
          have h89 : w8.heap.size < w9.heap.size := block_lt HS9.out
          have h79 : w7.heap.size + 2 ≤ w8.heap.size := by omega
          clear hb9 hS9 hE8 hW8 hb78 hb79 hvr7 HF7 HB7 hb7 hs8w HG7
          generalize w7.heap.size = n7 at *
          generalize w8.heap.size = n8 at *
          have hC9 : Hid (∀ k, k < 41 → pot endsLS hF (goS next m (c + 1)) k + (remC next (goS next m (c + 1)) c p (h p) 0 k + pend endsLS (fun e => T e && !decide (e = p)) h (goS next (m + 1) c) k) = goS next N 0 start k) := by
            intro k hk
            rw [remC_start, ← HHT.out k]
            exact HC.out k hk
          have hD9 : tot 41 endsLS hF + (2 - 0) * sumN 41 (h p) + 2 * totT 41 endsLS (fun e => T e && !decide (e = p)) h ≤ P2 := by omega
          have hE10 : nF + (2 - 0) + 2 * pcnt endsLS (fun e => T e && !decide (e = p)) ≤ 8 := by omega
          clear HHT HC hD hE2 htot hcnt
          go_loopw [39] (fun v wi => ∃ (j nI : Nat) (MI : LS → Option Value) (hI : LS → Nat → Nat), j ≤ 2 ∧ v = .int .i64 j ∧ Hid (VR keyLS wi bR I n M (fun e => T e && !decide (e = p)) cnt7) ∧ Hid (VM keyLS wi bF nI MI) ∧ Hid (WaysOf MI hI) ∧ Hid (∀ k, k < 41 → pot endsLS hI (goS next m (c + 1)) k + (remC next (goS next m (c + 1)) c p (h p) j k + pend endsLS (fun e => T e && !decide (e = p)) h (goS next (m + 1) c) k) = goS next N 0 start k) ∧ tot 41 endsLS hI + (2 - j) * sumN 41 (h p) + 2 * totT 41 endsLS (fun e => T e && !decide (e = p)) h ≤ P2 ∧ nI + (2 - j) + 2 * pcnt endsLS (fun e => T e && !decide (e = p)) ≤ 8 ∧ Hid (wi.heap[w.heap.size + 1]? = some (.cells (wvA fun _ => 0) 29 (0, 0))) ∧ Hid (wi.heap[n7]? = some (.cells #[.int .u8 pa, .int .u8 pb] 44 (0, 0))) ∧ Hid (wi.heap[n7 + 1]? = some (.cells (wvA (h p)) 29 (0, 0))) ∧ Hid (wi.heap[n8]? = some (.cells #[.int .u8 42, .int .u8 46] 5 (2, 3))) ∧ Below w.heap.size w wi) (fun v _ => 2 - (intOf v).toNat)
          case atStart => exact ⟨0, nF, MF, hF, Nat.zero_le _, rfl, hVR9, hVF9, HWF, hC9, hD9, hE10, hB9, hE9, hW9, HS9, hb09⟩
          case round =>
            clear hVR9 hVF9 HWF hC9 hD9 hE10 hB9 hE9 hW9 HS9 hb09
            obtain ⟨j, nI, MI, hI, hj, rfl, HVR, HVF, HWI, HC, hD, hE2, HB1, HEE, HWW, HSS, hb⟩ := hrel
            by_cases hj2 : j < 2
            · have hcell := cell_of_block HSS.out j
              have hsg : (#[Value.int .u8 42, .int .u8 46] : Array Value)[j]? = some (.int .u8 ((sgM (decide (j = 0))).toNat : Int)) := by
                match j, hj2 with
                | 0, _ => rfl
                | 1, _ => rfl
              rw [hsg] at hcell
              have hc0 := cell_of_block HEE.out 0
              have hc1 := cell_of_block HEE.out 1
              simp at hc0 hc1
              have hcall := HF.out wr p c (decide (j = 0)) hb hlt
              rw [HPE.out] at hcall
              obtain ⟨qa, qb, hqe⟩ : ∃ a b, encE (next p c (decide (j = 0))).1 = .agg #[.int .u8 a, .int .u8 b] := ⟨_, _, rfl⟩
              rw [hqe] at hcall
              have HQE := Lib.hid hqe
              have HRS := Lib.hid fun k => remC_step next (goS next m (c + 1)) c p (h p) k hj2
              have hga := hadd p c (decide (j = 0))
              have hps := Lib.hid fun f k hok => pot_step endsLS_nodup endsLS_all next (goS next m (c + 1)) c p (decide (j = 0)) f (h p) k hok
              have hno := Lib.hid fun k hok => conv_no next (goS next m (c + 1)) c p (decide (j = 0)) (h p) k hok
              obtain ⟨e', he'⟩ : ∃ e', (next p c (decide (j = 0))).1 = e' := ⟨_, rfl⟩
              obtain ⟨g', hg'⟩ : ∃ g', (next p c (decide (j = 0))).2.1 = g' := ⟨_, rfl⟩
              have HE' := Lib.hid he'
              have HG' := Lib.hid hg'
              rw [hg'] at hcall hga
              clear hqe he' hg' hsg
              generalize ((sgM (decide (j = 0))).toNat : Int) = sg at *
              cases hok : (next p c (decide (j = 0))).2.2 with
              | false =>
                rw [hok] at hcall
                have HOK := Lib.hid hok
                have HCALL := Lib.hid hcall
                clear hok hcall
                go_wp2_with fail
                refine HCALL.out.mono ?_
                rintro r w10 ⟨rfl, hb10⟩
                go_wp2_with fail
                have hb11 : Below wr.heap.size wr (w10.alloc (.cells #[.int .u8 qa, .int .u8 qb] 44)) := hb10.alloc hb10.size _
                generalize w10.alloc (.cells #[.int .u8 qa, .int .u8 qb] 44) = w11 at *
                have hC4 : Hid (∀ k, k < 41 → pot endsLS hI (goS next m (c + 1)) k + (remC next (goS next m (c + 1)) c p (h p) (j + 1) k + pend endsLS (fun e => T e && !decide (e = p)) h (goS next (m + 1) c) k) = goS next N 0 start k) := by
                  intro k hk
                  have h1 := HC.out k hk
                  rw [HRS.out k, hno.out k HOK.out, Nat.zero_add] at h1
                  exact h1
                have hmul : (2 - (j + 1)) * sumN 41 (h p) ≤ (2 - j) * sumN 41 (h p) := Nat.mul_le_mul_right _ (by omega)
                go_roundw
                case rel => exact ⟨j + 1, nI, MI, hI, by omega, by go_num, HVR.out.later keyLS hb11, HVF.out.later keyLS hb11, HWI.out, hC4, by omega, by omega, (hb11.block _ (block_lt HB1.out)).trans HB1.out, (hb11.block _ (block_lt HEE.out)).trans HEE.out, (hb11.block _ (block_lt HWW.out)).trans HWW.out, (hb11.block _ (block_lt HSS.out)).trans HSS.out, hb.trans (hb11.mono hb.size)⟩
                case measure => simp [intOf]; omega
              | true =>
                rw [hok] at hcall
                have HOK := Lib.hid hok
                have HCALL := Lib.hid hcall
                clear hok hcall
                go_wp2_with fail
                refine HCALL.out.mono ?_
                rintro r w10 ⟨rfl, hb10⟩
                go_upto_region 14 with fail
                have hb11 : Below wr.heap.size wr (w10.alloc (.cells #[.int .u8 qa, .int .u8 qb] 44)) := hb10.alloc hb10.size _
                have hQ11 : (w10.alloc (.cells #[.int .u8 qa, .int .u8 qb] 44)).heap[w10.heap.size]? = some (.cells #[.int .u8 qa, .int .u8 qb] 44 (0, 0)) := heap_alloc_new w10 _
                have hs10 := hb10.size
                generalize w10.alloc (.cells #[.int .u8 qa, .int .u8 qb] 44) = w11 at *
                generalize w10.heap.size = nq at *
                have hR1 : w11.drew.rangeAt nq 0 [.int .u8 qa, .int .u8 qb] := rangeOf hQ11
                have hW11 := (hb11.block _ (block_lt HWW.out)).trans HWW.out
                have hR2 : w11.drew.rangeAt (n7 + 1) 0 (wvL (h p)) := rangeOf (cs := wvL (h p)) hW11
                have hqe2 : encE e' = .agg #[.int .u8 qa, .int .u8 qb] := by rw [← HE'.out]; exact HQE.out
                have hVF11 := (HVF.out.later keyLS hb11).later keyLS ((Below.refl _ w11).drew)
                have hlook := VM.look_run keyLS 59 29 Try.underlying59 _ (wvZero _) bF nI MI hVF11 e' trivial
                rw [show keyLS.enc e' = encE e' from rfl, hqe2, HWI.out.getD e'] at hlook
                have hbI : ∀ k, k < 41 → hI e' k ≤ 4611686018427387904 := fun k hk => by
                  have := tot_le (endsLS_all e') hk hI
                  omega
                have hbp : ∀ k, k < 41 → h p k ≤ 4611686018427387903 := fun k hk => by
                  have h1 := sumN_one (h p) hk
                  have h2 : 1 * sumN 41 (h p) ≤ (2 - j) * sumN 41 (h p) := Nat.mul_le_mul_right _ (by omega)
                  omega
                have hbr11 : bF < w11.heap.size := (HVF.out.later keyLS hb11).lt keyLS
                have hplus := Lib.hid fun w => plus_any (hI e') (h p) g' w hga hbI hbp
                have hnq11 := block_lt hQ11
                have hn711 := block_lt hW11
                have HQ11 := Lib.hid hQ11
                have HW11 := Lib.hid hW11
                have HVF11 := Lib.hid hVF11
                have HQE2 := Lib.hid hqe2
                clear hQ11 hW11 hVF11 hqe2 hbI hbp hcell hc0 hc1
                refine wp_region_held_drew (S := fun w' => w'.rangeAt nq 0 [.int .u8 qa, .int .u8 qb] ∧ w'.rangeAt (n7 + 1) 0 (wvL (h p))) (by kernel_rfl) ⟨hR1, hR2⟩ (fun hH => ?_)
                refine wpAnyH_take (i := 0) (v := _) rfl (by kernel_rfl) (by kernel_rfl) (by kernel_rfl) (fun _ _ _ h => h) (Or.inl ⟨by rfl, fun _ _ => rfl⟩) hH ?_
                simp only [Act.put, List.setIfInBounds_toArray, List.set_cons_zero, List.set_cons_succ]
                refine wpAnyH_take (i := 1) (v := .agg #[.int .u8 qa, .int .u8 qb]) rfl (by kernel_rfl) (by kernel_rfl) (by kernel_rfl) (fun _ _ _ h => h) (yieldsIf_load_mid (by rfl) 44 _ rfl nq 0 rfl [.int .u8 qa, .int .u8 qb] _ (fun _ h => h.1) Try.underlying44 rfl (by kernel_rfl)) hH ?_
                simp only [Act.put, List.setIfInBounds_toArray, List.set_cons_zero, List.set_cons_succ]
                refine wpAnyH_take (i := 2) (v := _) rfl (by kernel_rfl) (by kernel_rfl) (by kernel_rfl) (fun _ _ _ h => h) (Or.inl ⟨by rfl, fun _ _ => rfl⟩) hH ?_
                simp only [Act.put, List.setIfInBounds_toArray, List.set_cons_zero, List.set_cons_succ]
                refine wpAnyH_take (i := 3) (v := .agg #[.int .u8 qa, .int .u8 qb]) rfl (by kernel_rfl) (by kernel_rfl) (by kernel_rfl) (fun _ _ _ h => h) (yieldsIf_load_mid (by rfl) 44 _ rfl nq 0 rfl [.int .u8 qa, .int .u8 qb] _ (fun _ h => h.1) Try.underlying44 rfl (by kernel_rfl)) hH ?_
                simp only [Act.put, List.setIfInBounds_toArray, List.set_cons_zero, List.set_cons_succ]
                refine wpAnyH_take (i := 5) (v := .agg (wvA (h p))) rfl (by kernel_rfl) (by kernel_rfl) (by kernel_rfl) (fun _ _ _ h => h) (yieldsIf_load_mid (by rfl) 29 _ rfl (n7 + 1) 0 rfl (wvL (h p)) _ (fun _ h => h.2) Try.underlying29 rfl (wvInfo.trans (by simp [wvL]))) hH ?_
                simp only [Act.put, List.setIfInBounds_toArray, List.set_cons_zero, List.set_cons_succ]
                refine wpAnyH_take (i := 6) (v := _) rfl (by kernel_rfl) (by kernel_rfl) (by kernel_rfl) (fun _ _ _ h => h) (Or.inl ⟨by rfl, fun _ _ => rfl⟩) hH ?_
                simp only [Act.put, List.setIfInBounds_toArray, List.set_cons_zero, List.set_cons_succ]
                refine wpAnyH_ready (rs := [4]) (by kernel_rfl) (by simp) ?_
                refine AllReadyH.cons rfl (fun K hK => ?_) AllReadyH.nil
                go_simp
                refine hK.out _ _ hH (fun hH6 => ?_)
                clear hK K hlook
                refine wpAnyH_ready (rs := [7]) (by kernel_rfl) (by simp) ?_
                refine AllReadyH.cons rfl (fun K hK => ?_) AllReadyH.nil
                go_simp
                refine (hplus.out _).mono ?_
                rintro r w12 ⟨rfl, hb12⟩
                go_wp2_with fail
                have hb12' : Below w11.heap.size w11 w12 := ofDrew hb12
                have hQ12 := (hb12'.block _ hnq11).trans HQ11.out
                have hW12 := (hb12'.block _ hn711).trans HW11.out
                refine hK.out _ _ ⟨rangeOf hQ12, rangeOf (cs := wvL (h p)) hW12⟩ (fun hH7 => ?_)
                clear hK K hH6
                obtain ⟨w13, hput, hVF13, ht13⟩ := VM.put_run keyLS 59 29 Try.underlying59 bF nI MI (HVF11.out.later keyLS hb12) e' trivial (.agg (wvA fun j => hI e' j + shiftF (h p) g' j)) (by omega)
                rw [show keyLS.enc e' = encE e' from rfl, HQE2.out] at hput
                refine wpAnyH_ready (rs := [8]) (by kernel_rfl) (by simp) ?_
                refine AllReadyH.cons rfl (fun K hK => ?_) AllReadyH.nil
                go_simp
                have hb12w : Below wr.heap.size wr w12 := hb11.trans (hb12'.mono hb11.size)
                have hkp : ∀ b o, wr.heap[b]? = some o → b ≠ bF → w13.heap[b]? = some o := fun b o ho hne => (ht13.block b (Nat.lt_of_lt_of_le (block_lt ho) hb12w.size) (by simpa using hne)).trans ((hb12w.block b (block_lt ho)).trans ho)
                have hq13 := (ht13.block nq (block_lt hQ12) (by simp; have := (HVF.out.lt keyLS); omega)).trans hQ12
                have hw13 := (ht13.block (n7 + 1) (block_lt hW12) (by simp; omega)).trans hW12
                refine hK.out _ _ ⟨rangeOf hq13, rangeOf (cs := wvL (h p)) hw13⟩ (fun hH8 => ?_)
                clear hK K hH7 hput
                refine wpAnyH_done (by kernel_rfl) ?_ _
                have hC4 : Hid (∀ k, k < 41 → pot endsLS (addE hI e' (h p) g') (goS next m (c + 1)) k + (remC next (goS next m (c + 1)) c p (h p) (j + 1) k + pend endsLS (fun e => T e && !decide (e = p)) h (goS next (m + 1) c) k) = goS next N 0 start k) := by
                  intro k hk
                  have h1 := HC.out k hk
                  have h2 := hps.out hI k HOK.out
                  rw [HE'.out, HG'.out] at h2
                  rw [HRS.out k] at h1
                  rw [h2]
                  omega
                have hD4 : tot 41 endsLS (addE hI e' (h p) g') + (2 - (j + 1)) * sumN 41 (h p) + 2 * totT 41 endsLS (fun e => T e && !decide (e = p)) h ≤ P2 := by
                  have h1 := tot_addE endsLS_nodup (endsLS_all e') 41 hI (h p) g'
                  have h2 : (2 - j) * sumN 41 (h p) = (2 - (j + 1)) * sumN 41 (h p) + sumN 41 (h p) := by
                    rw [show 2 - j = (2 - (j + 1)) + 1 by omega, Nat.add_mul, Nat.one_mul]
                  omega
                have hV13 := (HVR.out.later keyLS hb12w).touch keyLS hneR (by omega) ht13
                have hW13 := HWI.out.put e' (h p) g'
                have hb13 : Below w.heap.size w w13 := (hb.trans (hb12w.mono hb.size)).trans (ht13.below (by omega) (Nat.lt_of_lt_of_le (HVF.out.lt keyLS) hb12w.size))
                have HK := Lib.hid hkp
                have HV13 := Lib.hid hV13
                have HW13 := Lib.hid hW13
                have HVF13 := Lib.hid hVF13
                clear hkp hV13 hW13 hVF13 hq13 hw13 hQ12 hW12 hb12 hb12' hR1 hR2 ht13 hH hH8
                go_wp2_with fail
                go_roundw
                case rel => exact ⟨j + 1, nI + 1, _, _, by omega, by go_num, HV13.out, HVF13.out, HW13.out, hC4, hD4, by omega, HK.out _ _ HB1.out (by omega), HK.out _ _ HEE.out (by omega), HK.out _ _ HWW.out (by omega), HK.out _ _ HSS.out (by omega), hb13⟩
                case measure => simp [intOf]; omega
            · obtain rfl : j = 2 := by omega
              have HC3 : Hid (∀ k, k < 41 → pot endsLS hI (goS next m (c + 1)) k + pend endsLS (fun e => T e && !decide (e = p)) h (goS next (m + 1) c) k = goS next N 0 start k) := by
                intro k hk
                have h1 := HC.out k hk
                rw [remC_end, Nat.zero_add] at h1
                exact h1
              clear HC
              go_wp2_with fail
              go_roundw
              case rel => exact ⟨_, cnt7, nI, MI, hI, HVR.out, HVF.out, HWI.out, HC3.out, by omega, by omega, HB1.out, hb⟩
              case measure => rw [HVR.out.left_eq, HMS.out]; exact hlt7
    · have h0 : N - c = 0 := by omega
      have hcN : c = N := by omega
      have HPZ : Hid (∀ k, k < 41 → sumE endsLS (fun e => h e k) = goS next N 0 start k) := by
        intro k hk
        rw [← HP.out k hk, h0]
        exact (sumE_congr fun e _ => conv_one (h e) k).symm
      have hTN : tot 41 endsLS h ≤ 2199023255552 := by
        refine Nat.le_trans hT ?_
        rw [show (2199023255552 : Nat) = 2 ^ 41 by decide]
        exact Nat.pow_le_pow_right (by decide) (by omega)
      have hdec : decide (c < N) = false := decide_eq_false hlt
      clear HP h0 hcN hT
      have hMR := fun o => HM.out.later keyLS ((Below.refl _ wr).alloc (Nat.le_refl _) o)
      have hMlt := HM.out.lt keyLS
      have HMR := Lib.hid hMR
      have hA5 : (wr.alloc (.cells (wvA fun _ => 0) 29)).heap[wr.heap.size]? = some (.cells (wvA fun _ => 0) 29 (0, 0)) := heap_alloc_new wr _
      have hbA : Below wr.heap.size wr (wr.alloc (.cells (wvA fun _ => 0) 29)) := (Below.refl _ _).alloc (Nat.le_refl _) _
      have hsA : (wr.alloc (.cells (wvA fun _ => 0) 29)).heap.size = wr.heap.size + 1 := by simp
      have HBA := Lib.hid ((hbA.block _ (block_lt HB1.out)).trans HB1.out)
      have HA5 := Lib.hid hA5
      have hbl1 := block_lt HB1.out
      clear hMR HM hA5 HB1
      go_wp2_with (first | (at_range; refine wpList_vm_range keyLS rfl _ _ _ rfl Try.underlying59 bR n M rfl (HMR.out _) ?_; intro w5 cnt hvr hg5 hs5))
      have HB5 := Lib.hid ((hg5.block _ (by omega) (by simp)).trans HBA.out)
      have HC5 := Lib.hid ((hg5.block _ (by omega) (by simp)).trans HA5.out)
      have hb5 : Below w.heap.size w w5 := (HB.trans (hbA.mono HB.size)).trans ⟨hg5.os, hg5.tape, hg5.output, hg5.size, fun k hk => hg5.block k (by have := HB.size; omega) (by simp)⟩
      rw [hsA] at hvr
      have hwB := HB.size
      try rw [hsA]
      try simp only [Act.put, List.setIfInBounds_toArray, List.set_cons_zero, List.set_cons_succ]
      clear HMR hbA hg5 HBA HB hsA HA5 hs5
      have hC0 : Hid (∀ k, k < 41 → (fun _ => 0) k + sumE endsLS (fun e => if (M e).isSome = true then h e k else 0) = goS next N 0 start k) := by
        intro k hk
        rw [← HPZ.out k hk, Nat.zero_add]
        refine sumE_congr fun e _ => ?_
        rcases HW.out e with q | ⟨q, q2⟩
        · rw [if_pos (by rw [q]; rfl)]
        · rw [if_neg (by rw [q]; decide), q2 k hk]
      have hD0 : sumN 41 (fun _ => 0) + totT 41 endsLS (fun p => (M p).isSome) h ≤ 2199023255552 := by
        rw [sumN_zero, Nat.zero_add]
        refine Nat.le_trans (sumE_mono fun e _ => ?_) hTN
        split <;> omega
      generalize hI : wr.heap.size + 1 = I at *
      generalize hnA : wr.heap.size = nA at *
      have hneI : nA < I := by omega
      have hneA : w.heap.size + 1 < nA := by omega
      clear hI hnA HPZ hTN
      go_loopw [19] (fun _ w6 => ∃ (T : LS → Bool) (cnt : Nat) (acc : Nat → Nat), Hid (VR keyLS w6 bR I n M T cnt) ∧ Hid (w6.heap[nA]? = some (.cells (wvA acc) 29 (0, 0))) ∧ Hid (∀ k, k < 41 → acc k + sumE endsLS (fun e => if T e = true then h e k else 0) = goS next N 0 start k) ∧ sumN 41 acc + totT 41 endsLS T h ≤ 2199023255552 ∧ Hid (w6.heap[w.heap.size + 1]? = some (.cells (wvA fun _ => 0) 29 (0, 0))) ∧ Below w.heap.size w w6) (fun _ w6 => w6.rangeLeft bR I)
      case atStart => exact ⟨_, _, _, hvr, HC5.out, hC0, hD0, HB5.out, hb5⟩
      case round =>
        clear hvr HC5 hC0 hD0 HB5 hb5
        obtain ⟨T, cnt, acc, HVR, HA, HC, hD, HB1, hb⟩ := hrel
        go_wp2_with (first | (at_next; refine wpList_vm_next keyLS rfl _ rfl bR I n M T cnt rfl HVR.out ?_ ?_))
        case refine_1 =>
          intro hz0 hT0
          have hacc : wvA acc = wvA (goS next N 0 start) := wvA_congr fun k hk => by
            have h1 := HC.out k hk
            rw [sumE_congr (G := fun _ => 0) (fun e _ => by rw [hT0 e trivial]; rfl), sumE_zero, Nat.add_zero] at h1
            exact h1
          have HA2 := HA.out
          rw [hacc] at HA2
          clear hT0 HC hacc HA
          go_wp2_with (first
            | (refine wpList_load_row rfl _ _ rfl nA rfl 29 (wvA (goS next N 0 start)) (0, 0) _ HA2 Try.underlying29 rfl (wvInfoA _) ?_)
            | (refine wpList_store_row rfl _ _ _ rfl (w.heap.size + 1) (wvA (goS next N 0 start)) rfl rfl 29 _ HB1.out (wvInfoA _) (by rw [wvA_size, wvA_size]) (wvA_one _) ?_))
          have hlv := run_loadVar_row (P := Try.prog) (wr.setRow (w.heap.size + 1) (wvA (goS next N 0 start))) (w.heap.size + 1) 29 29 (wvA (goS next N 0 start)) (0, 0) _ (setRow_heap wr _ _ _ _ _ HB1.out) Try.underlying29 rfl (wvInfoA _)
          refine bodyPost_ret (v := .agg (wvA (goS next N 0 start))) ?_ rfl ⟨rfl, below_setRow hb (by omega) _⟩
          simp [results, Try.results20, asAddr, Act.put, hlv]
        case refine_2 =>
          intro p v w7 cnt7 _ hpT hpM hvr7 hlt7 hg7 hs7 hen
          have hv := HW.out.get hpM
          subst hv
          have hstr := fun k => sumE_strike endsLS_nodup (endsLS_all p) T hpT (fun e => h e k)
          have htot := totT_strike endsLS_nodup (endsLS_all p) T hpT 41 h
          have HMS := Lib.hid HVR.out.left_eq
          have HA7 := Lib.hid ((hg7.block _ (block_lt HA.out) (by simp; omega)).trans HA.out)
          have HB7 := Lib.hid ((hg7.block _ (block_lt HB1.out) (by simp; omega)).trans HB1.out)
          have hb7 : Below w.heap.size w w7 := hb.trans ⟨hg7.os, hg7.tape, hg7.output, hg7.size, fun k hk => hg7.block k (by have := hb.size; omega) (by simp; omega)⟩
          have HS7 := Lib.hid hs7
          have HST := Lib.hid hstr
          have hA8 : (w7.alloc (.cells (wvA fun _ => 0) 29)).heap[w7.heap.size]? = some (.cells (wvA fun _ => 0) 29 (0, 0)) := heap_alloc_new w7 _
          have HA8 := Lib.hid hA8
          have hIl : I < w7.heap.size := hvr7.ltr keyLS
          have hnl : nA < w7.heap.size := block_lt HA7.out
          have hbpl : ∀ k, k < 41 → h p k ≤ 4611686018427387903 := fun k hk => by
            have h1 := sumN_one (h p) hk
            omega
          have hacl : ∀ k, k < 41 → acc k ≤ 4611686018427387904 := fun k hk => by
            have h1 := sumN_one acc hk
            omega
          have hplus := fun w => plus_any acc (h p) 0 w (by omega) hacl hbpl
          rw [show (((0 : Nat) : Int)) = 0 from rfl] at hplus
          have HPL := Lib.hid hplus
          rw [show keyLS.enc p = encE p from rfl] at hen ⊢
          generalize encE p = ep at hen ⊢
          clear hs7 hstr hpM hg7 HVR HA HB1 hb hA8 hplus hbpl hacl HW
          go_upto_region 22 with (first
            | (refine wpList_store_row rfl _ _ _ rfl w7.heap.size (wvA (h p)) rfl rfl 29 _ HA8.out (wvInfoA _) (by rw [wvA_size, wvA_size]) (wvA_one _) ?_))
          obtain ⟨w8, hw8⟩ : ∃ w8, w8 = (w7.alloc (.cells (wvA fun _ => 0) 29)).setRow w7.heap.size (wvA (h p)) := ⟨_, rfl⟩
          have hW8 : w8.heap[w7.heap.size]? = some (.cells (wvA (h p)) 29 (0, 0)) := by
            rw [hw8]
            exact setRow_heap _ _ _ _ _ _ HA8.out
          have hb78 : Below w7.heap.size w7 w8 := by rw [hw8]; exact below_setRow ((Below.refl _ _).alloc (Nat.le_refl _) _) (Nat.le_refl _) _
          rw [← hw8]
          clear hw8 HA8
          have HA8 := Lib.hid ((hb78.block _ (block_lt HA7.out)).trans HA7.out)
          have HW8 := Lib.hid hW8
          have hn8 := block_lt hW8
          clear hW8
          go_wp2_with (first
            | (refine wpList_load_row rfl _ _ rfl nA rfl 29 (wvA acc) (0, 0) _ HA8.out Try.underlying29 rfl (wvInfoA _) ?_)
            | (refine wpList_load_row rfl _ _ rfl w7.heap.size rfl 29 (wvA (h p)) (0, 0) _ HW8.out Try.underlying29 rfl (wvInfoA _) ?_))
          refine (HPL.out _).mono ?_
          rintro r w10 ⟨rfl, hb10⟩
          have HA10 := Lib.hid ((hb10.block _ (by omega)).trans HA8.out)
          go_wp2_with (first
            | (refine wpList_store_row rfl _ _ _ rfl nA (wvA fun j => acc j + shiftF (h p) 0 j) rfl rfl 29 _ HA10.out (wvInfoA _) (by rw [wvA_size, wvA_size]) (wvA_one _) ?_))
          have hb710 : Below w7.heap.size w7 w10 := hb78.trans (hb10.mono hb78.size)
          have htA : Touch nA w10 (w10.setRow nA (wvA fun j => acc j + shiftF (h p) 0 j)) := ⟨rfl, rfl, rfl, by simp, fun k _ hne => setRow_other _ _ _ _ (by simpa using hne)⟩
          have hV10 := (hvr7.later keyLS hb710).touch keyLS (show bR ≠ nA by omega) (show I ≠ nA by omega) htA
          have hX10 := setRow_heap w10 nA _ (wvA fun j => acc j + shiftF (h p) 0 j) _ _ HA10.out
          have hB10 := (setRow_other w10 nA (w.heap.size + 1) (wvA fun j => acc j + shiftF (h p) 0 j) (by omega)).trans ((hb710.block _ (block_lt HB7.out)).trans HB7.out)
          refine ⟨⟨_, _, _, _, _, _, _, _, ⟨_, cnt7, _, hV10, hX10, ?_, ?_, hB10, below_setRow (hb7.trans (hb710.mono hb7.size)) (by omega) _⟩, rfl⟩, ?_⟩
          · intro k hk
            have h1 := HC.out k hk
            rw [HST.out k] at h1
            rw [shiftF_nil]
            omega
          · rw [show (fun j => acc j + shiftF (h p) 0 j) = fun j => acc j + h p j by funext j; rw [shiftF_nil], sumN_add]
            omega
          · rw [hV10.left_eq, HMS.out]; exact hlt7
end Go.Proofs.Ythlbplmghjaeoaf
