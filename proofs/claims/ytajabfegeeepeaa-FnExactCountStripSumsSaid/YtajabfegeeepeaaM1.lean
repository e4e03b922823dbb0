/- Strips: the ways to go on from a sign, by the program. -/
import Derived.Test.YtajabfegeeepeaaH9
namespace Go.Proofs.Ytajabfegeeepeaa
open Go.RowKit

/-- An end that is one sign (the walk does not look into it). -/
def BS : Type := Bool
instance : DecidableEq BS := inferInstanceAs (DecidableEq Bool)
def encB (e : Bool) : Value := .int .u8 ((sgM e).toNat : Int)
def litB (e : Bool) : Lit := .int .u8 ((sgM e).toNat : Int)
theorem encB_inj (x y : Bool) (h : encB x = encB y) : x = y := by
  cases x <;> cases y <;> first | rfl | (exfalso; simp [encB, sgM] at h)
theorem keyedBS : Maps.Keyed Try.prog 5 := Maps.int_keyed Try.underlying5
theorem litB_of (e : Bool) : keyOf Try.prog 5 (encB e) = some (litB e) := Maps.keyOf_int_mk Try.underlying5 (sgM_wf e)
/-- Maps from signs. -/
def keyBS : KeyLay Try.prog 5 BS where
  enc := encB
  lit := litB
  ok := fun _ => True
  keyed := keyedBS
  key := fun x _ => litB_of x
  inj := fun x y _ _ h => encB_inj x y h
  isKey := fun _ => trivial
/-- All signs. -/
def endsBS : List BS := [(true : Bool), (false : Bool)]
theorem endsBS_nodup : endsBS.Nodup := by decide +kernel
theorem endsBS_all (e : BS) : e ∈ endsBS := by
  have h : ∀ a : Bool, a ∈ [true, false] := by decide
  exact h e

set_option maxRecDepth 100000 in
set_option maxHeartbeats 6400000 in
theorem sumWaysB_any (next : BS → Nat → Bool → BS × Nat × Bool) (F : Nat) (cp : Array Value) (N : Nat) (start : BS) (w : World) (hN : N ≤ 41) (hE : ∀ (args : Array Value) (w' : World), (callFunc F args).run Try.prog w' = .ok (.enter F args) w')
    (hadd : ∀ e c m, (next e c m).2.1 ≤ 40)
    (hf : ∀ (w' : World) (e : BS) (c : Nat) (m : Bool), Below w.heap.size w w' → c < N → Calls Try.prog F (#[encB e, .int .i64 (c : Int), .int .u8 ((sgM m).toNat : Int)] ++ cp) w' fun r w'' => r = .returned (.tuple #[encB (next e c m).1, .int .i64 ((next e c m).2.1 : Int), .bool (next e c m).2.2]) ∧ Below w'.heap.size w' w'') :
    Calls Try.prog 56 #[encB start, .int .i64 (N : Int), .func (.func F) #[] cp] w fun e w' => e = .returned (.agg (wvA (goS next N 0 start))) ∧ Below w.heap.size w w' := by
  have HF := Lib.hid hf
  clear hf
  have hz := fun w => wvZero w
  have hmm := @run_makeMap Try.prog
  have hbt : Try.prog.built 54 [(0, .int .i64 1)] = some (wvA oneAt0) := wvBuiltOne _ (fun _ _ => rfl)
  obtain ⟨sa, hsab⟩ : ∃ a, encB start = .int .u8 a := ⟨_, rfl⟩
  rw [hsab]
  go_enter Try.func56, Try.ntmps56
  go_upto_region 1 with fail
  have hb0 : Below w.heap.size w (w.alloc (.cells (wvA fun _ => 0) 54)) := (Below.refl _ _).alloc (Nat.le_refl _) _
  have hB1 : (w.alloc (.cells (wvA fun _ => 0) 54)).heap[w.heap.size]? = some (.cells (wvA fun _ => 0) 54 (0, 0)) := heap_alloc_new w _
  have hs2 : (w.alloc (.cells (wvA fun _ => 0) 54)).heap.size = w.heap.size + 1 := by simp
  generalize w.alloc (.cells (wvA fun _ => 0) 54) = w2 at *
  have hMm := VM.made keyBS w2
  have hbm : Below w2.heap.size w2 (w2.alloc (.map #[] 0)) := (Below.refl _ _).alloc (Nat.le_refl _) _
  have hsm : (w2.alloc (.map #[] 0)).heap.size = w2.heap.size + 1 := by simp
  rw [hs2] at hMm hbm hsm
  have hB1' := (hbm.block _ (by omega)).trans hB1
  have hone : (wvA fun _ => 0).setIfInBounds 0 (.int .i64 1) = wvA oneAt0 := by
    rw [show (Value.int .i64 1) = .int .i64 ((1 : Nat) : Int) from rfl, wvA_set _ _ _ (by omega)]
    rfl
  obtain ⟨w3, hrun, hM3, ht3⟩ := VM.put_run keyBS 91 54 Try.underlying91 (w.heap.size + 1) 0 _ hMm start trivial (.agg (wvA oneAt0)) (by omega)
  rw [show keyBS.enc start = encB start from rfl, hsab, ← hone] at hrun
  have hB1 := (ht3.block _ (by omega) (by simp)).trans hB1'
  have hb3 : Below w.heap.size w w3 := (hb0.trans (hbm.mono (by omega))).trans (ht3.below (by omega) (by omega))
  have hs3 := ht3.size
  have hl3 := hM3.lt keyBS
  have HB1 := Lib.hid hB1
  have HM3 := Lib.hid hM3
  have HB3 := Lib.hid hb3
  have HONE := Lib.hid hone
  have HBT := Lib.hid hbt
  clear hB1' hB1 hMm hM3 hone hb3 hbm ht3 hb0 hsm hbt
  go_wp2_with fail
  rw [HONE.out]
  clear hrun
  have hM0 : Hid (WaysOf (putF (fun _ => none) start (.agg (wvA oneAt0))) (addE (fun _ _ => 0) start oneAt0 0)) := by
    have x := (WaysOf.nil (ε := BS)).put start oneAt0 0
    rw [show (fun j => (0 : Nat) + shiftF oneAt0 0 j) = oneAt0 by funext j; rw [shiftF_nil, Nat.zero_add]] at x
    exact x
  have hP0 : Hid (∀ k, k < 41 → pot endsBS (addE (fun _ _ => 0) start oneAt0 0) (goS next (N - 0) 0) k = goS next N 0 start k) := by
    intro k _
    rw [pot_addE endsBS_nodup (endsBS_all _), shiftF_nil, conv_one_l, Nat.sub_zero]
    unfold pot
    rw [sumE_congr (G := fun _ => 0) (fun e _ => conv_zero _ _), sumE_zero, Nat.zero_add]
  have hT0 : tot 41 endsBS (addE (fun _ _ => 0) start oneAt0 0) ≤ 2 ^ 0 := by
    refine Nat.le_trans (tot_addE endsBS_nodup (endsBS_all _) _ _ _ _) ?_
    unfold tot
    rw [sumE_congr (G := fun _ => 0) (fun e _ => sumN_zero _), sumE_zero]
    decide
  generalize Value.agg (wvA oneAt0) = vx
  generalize putF (fun _ => none) start vx = M0 at *
  go_loopw [7, 25] (fun v i wr => ∃ (c b n : Nat) (M : BS → Option Value) (h : BS → Nat → Nat), c ≤ N ∧ i = .int .i64 c ∧ v = .map (some b) ∧ w.heap.size + 1 ≤ b ∧ n ≤ 8 ∧ Hid (VM keyBS wr b n M) ∧ Hid (WaysOf M h) ∧ Hid (∀ k, k < 41 → pot endsBS h (goS next (N - c) c) k = goS next N 0 start k) ∧ tot 41 endsBS h ≤ 2 ^ c ∧ Hid (wr.heap[w.heap.size]? = some (.cells (wvA fun _ => 0) 54 (0, 0))) ∧ Below w.heap.size w wr) (fun _ i _ => N - (intOf i).toNat)
  case atStart => exact ⟨0, _, _, _, _, Nat.zero_le _, rfl, rfl, Nat.le_refl _, by omega, HM3, hM0, hP0, hT0, HB1, HB3.out⟩
  case round =>
    clear hM0 hP0 hT0 HM3 HB1 HB3 hs3 hl3 HBT
    obtain ⟨c, bR, n, M, h, hc, rfl, rfl, hbR, hn, HM, HW, HP, hT, HB1, HB⟩ := hrel
    by_cases hlt : c < N
    · obtain ⟨m, hm⟩ : ∃ m, N - c = m + 1 := ⟨N - c - 1, by omega⟩
      have hm2 : N - (c + 1) = m := by omega
      have hMm := VM.made keyBS wr
      have hbm : Below wr.heap.size wr (wr.alloc (.map #[] 0)) := (Below.refl _ _).alloc (Nat.le_refl _) _
      have hMR := fun o => HM.out.later keyBS ((Below.refl _ wr).alloc (Nat.le_refl _) o)
      have hMlt := HM.out.lt keyBS
      have HMm := Lib.hid hMm
      have HMR := Lib.hid hMR
      have hsm : (wr.alloc (.map #[] 0)).heap.size = wr.heap.size + 1 := by simp
      have hBl := block_lt HB1.out
      have HB1m := Lib.hid ((hbm.block _ hBl).trans HB1.out)
      have HM1 := Lib.hid hm
      have HM2 := Lib.hid hm2
      clear hMm hMR hm hm2 HM HB1
      go_wp2_with (first | (at_range; refine wpList_vm_range keyBS rfl _ _ _ rfl Try.underlying91 bR n M rfl (HMR.out _) ?_; intro w5 cnt hvr hg5 hs5))
      have hF5 : VM keyBS w5 wr.heap.size 0 (fun _ => none) := by
        obtain ⟨D, hD, hD2⟩ := HMm.out
        exact ⟨D, World.ownsMap.kept hD hg5 (by simp), hD2⟩
      have HB5 : Hid (w5.heap[w.heap.size]? = some (.cells (wvA fun _ => 0) 54 (0, 0))) := (hg5.block _ (by omega) (by simp)).trans HB1m.out
      have hb5 : Below w.heap.size w w5 := (HB.trans (hbm.mono HB.size)).trans ⟨hg5.os, hg5.tape, hg5.output, hg5.size, fun k hk => hg5.block k (by omega) (by simp)⟩
      rw [hsm] at hvr hs5
      have hwB := HB.size
      rw [hsm]
      simp only [Act.put, List.setIfInBounds_toArray, List.set_cons_zero, List.set_cons_succ]
      clear HMm HMR hbm hg5 HB1m HB hsm
      have hC0 : Hid (∀ k, k < 41 → pot endsBS (fun _ _ => 0) (goS next m (c + 1)) k + pend endsBS (fun p => (M p).isSome) h (goS next (m + 1) c) k = goS next N 0 start k) := by
        intro k hk
        have h1 : pot endsBS (fun _ _ => 0) (goS next m (c + 1)) k = 0 := by
          unfold pot
          rw [sumE_congr (G := fun _ => 0) (fun e _ => conv_zero _ _), sumE_zero]
        have h2 : pend endsBS (fun p => (M p).isSome) h (goS next (m + 1) c) k = pot endsBS h (goS next (m + 1) c) k := by
          unfold pend pot
          refine sumE_congr fun e _ => ?_
          rcases HW.out e with q | ⟨q, q2⟩
          · rw [if_pos (show (M e).isSome = true by rw [q]; rfl)]
          · rw [if_neg (show ¬ (M e).isSome = true by rw [q]; decide), ← conv_zero (goS next (m + 1) c e) k]
            exact conv_congr (fun i hi => (q2 i (by omega)).symm) (fun _ _ => rfl)
        rw [h1, h2, ← HM1.out, Nat.zero_add]
        exact HP.out k hk
      have hD0 : tot 41 endsBS (fun _ _ => 0) + 2 * totT 41 endsBS (fun p => (M p).isSome) h ≤ 2 ^ (c + 1) := by
        have h1 : tot 41 endsBS (fun _ _ => 0) = 0 := by
          unfold tot
          rw [sumE_congr (G := fun _ => 0) (fun e _ => sumN_zero _), sumE_zero]
        have h2 : totT 41 endsBS (fun p => (M p).isSome) h ≤ tot 41 endsBS h := by
          refine sumE_mono fun e _ => ?_
          split <;> omega
        rw [h1, Nat.pow_succ]
        omega
      have hE0 : 0 + 2 * pcnt endsBS (fun p => (M p).isSome) ≤ 8 := by
        have := pcnt_le (fun p => (M p).isSome) endsBS
        have h4 : endsBS.length = 2 := rfl
        omega
      have h2c : 2 ^ (c + 1) ≤ 2199023255552 := by
        rw [show (2199023255552 : Nat) = 2 ^ 41 by decide]
        exact Nat.pow_le_pow_right (by decide) (by omega)
      generalize hI : wr.heap.size + 1 = I at *
      generalize hBF : wr.heap.size = bF at *
      have HBF := Lib.hid hBF
      clear hBF HP
      obtain ⟨P2, hP2⟩ : ∃ P2, 2 ^ (c + 1) = P2 := ⟨_, rfl⟩
      rw [hP2] at hD0 h2c
      have HP2 := Lib.hid hP2
      clear hP2
      have hbF2 : w.heap.size + 1 ≤ bF := by have := HBF.out; omega
      have hneR : bR ≠ bF := by have := HBF.out; omega
      have hneI : bF < I := by have := HBF.out; omega
      clear hI
      go_loopw [39] (fun _ w6 => ∃ (T : BS → Bool) (cnt nF : Nat) (MF : BS → Option Value) (hF : BS → Nat → Nat), Hid (VR keyBS w6 bR I n M T cnt) ∧ Hid (VM keyBS w6 bF nF MF) ∧ Hid (WaysOf MF hF) ∧ Hid (∀ k, k < 41 → pot endsBS hF (goS next m (c + 1)) k + pend endsBS T h (goS next (m + 1) c) k = goS next N 0 start k) ∧ tot 41 endsBS hF + 2 * totT 41 endsBS T h ≤ P2 ∧ nF + 2 * pcnt endsBS T ≤ 8 ∧ Hid (w6.heap[w.heap.size]? = some (.cells (wvA fun _ => 0) 54 (0, 0))) ∧ Below w.heap.size w w6) (fun _ w6 => w6.rangeLeft bR I)
      case atStart => exact ⟨_, _, _, _, _, hvr, hF5, WaysOf.nil, hC0, hD0, hE0, HB5, hb5⟩
      case round =>
        clear hvr hF5 hC0 hD0 hE0 HB5 hb5
        obtain ⟨T, cnt, nF, MF, hF, HVR, HVF, HWF, HC, hD, hE2, HB1, hb⟩ := hrel
        go_wp2_with (first | (at_next; refine wpList_vm_next keyBS rfl _ rfl bR I n M T cnt rfl HVR.out ?_ ?_))
        case refine_1 =>
          intro h0 hT0
          have HC2 : Hid (∀ k, k < 41 → pot endsBS hF (goS next (N - (c + 1)) (c + 1)) k = goS next N 0 start k) := by
            intro k hk
            have h1 := HC.out k hk
            rw [pend_none (fun e _ => hT0 e trivial), Nat.add_zero] at h1
            rw [HM2.out]; exact h1
          have hT2 : tot 41 endsBS hF ≤ 2 ^ (c + 1) := by rw [HP2.out]; omega
          clear hT0 HC
          go_wp2_with fail
          go_roundw
          case rel => exact ⟨c + 1, bF, nF, MF, hF, by omega, by go_num, rfl, hbF2, by omega, HVF.out, HWF.out, HC2.out, hT2, HB1.out, hb⟩
          case measure => simp [intOf]; omega
        case refine_2 =>
          intro p v w7 cnt7 _ hpT hpM hvr7 hlt7 hg7 hs7 hen
          have hv := HW.out.get hpM
          subst hv
          have hstr := fun k => pend_strike endsBS_nodup (endsBS_all p) T hpT h (goS next (m + 1) c) k
          have htot := totT_strike endsBS_nodup (endsBS_all p) T hpT 41 h
          have hcnt := pcnt_strike endsBS_nodup (endsBS_all p) T hpT
          have HHT := Lib.hid hstr
          have HF7 : Hid (VM keyBS w7 bF nF MF) := by
            obtain ⟨D, hD, hD2⟩ := HVF.out
            exact ⟨D, World.ownsMap.kept hD hg7 (by simp; omega), hD2⟩
          have HB7 := Lib.hid ((hg7.block _ (block_lt HB1.out) (by simp; omega)).trans HB1.out)
          have hb7 : Below w.heap.size w w7 := hb.trans ⟨hg7.os, hg7.tape, hg7.output, hg7.size, fun k hk => hg7.block k (by have := hb.size; omega) (by simp; omega)⟩
          have HMS := Lib.hid HVR.out.left_eq
          have HHM := Lib.hid hpM
          have HG7 := Lib.hid hg7
          obtain ⟨pa, hpe⟩ : ∃ a, encB p = .int .u8 a := ⟨_, rfl⟩
          have HPE := Lib.hid hpe
          rw [show keyBS.enc p = encB p from rfl, hpe] at hen ⊢
          clear hstr hpM hg7 HVF HB1 hb HVR HW hpe
          have HS7 := Lib.hid hs7
          clear hs7
          have hA8 : (w7.alloc (.cells (wvA fun _ => 0) 54)).heap[w7.heap.size]? = some (.cells (wvA fun _ => 0) 54 (0, 0)) := heap_alloc_new w7 _
          have A3 := Lib.hid hA8
          clear hA8
          go_upto_region 9 with (first
            | (refine wpList_store_row rfl _ _ _ rfl w7.heap.size (wvA (h p)) rfl rfl 54 _ A3.out (wvInfoA _) (by rw [wvA_size, wvA_size]) (wvA_one _) ?_))
          obtain ⟨w8, hw8⟩ : ∃ w8, w8 = (w7.alloc (.cells (wvA fun _ => 0) 54)).setRow w7.heap.size (wvA (h p)) := ⟨_, rfl⟩
          have hW8 : w8.heap[w7.heap.size]? = some (.cells (wvA (h p)) 54 (0, 0)) := by
            rw [hw8]
            exact setRow_heap _ _ _ _ _ _ A3.out
          have hs8 : w8.heap.size = w7.heap.size + 1 := by rw [hw8, size_setRow]; simp
          have hb78 : Below w7.heap.size w7 w8 := by rw [hw8]; exact below_setRow ((Below.refl _ _).alloc (Nat.le_refl _) _) (Nat.le_refl _) _
          rw [← hw8]
          clear hw8 A3
          have HS8 := Lib.hid hs8
          clear hs8
          have hcv := Lib.run_convert_bytes_const (P := Try.prog) w8 42 5 #[.int .u8 42, .int .u8 46] 2 2 Try.underlying42 Try.underlying5
          go_wp2_with fail
          clear hcv
          obtain ⟨w9, hw9⟩ : ∃ w9, w9 = w8.alloc (.cells #[.int .u8 42, .int .u8 46] 5 (2, 3)) := ⟨_, rfl⟩
          have hb9 : Below w8.heap.size w8 w9 := by rw [hw9]; exact (Below.refl _ _).alloc (Nat.le_refl _) _
          have hS9 : w9.heap[w8.heap.size]? = some (.cells #[.int .u8 42, .int .u8 46] 5 (2, 3)) := by
            rw [hw9]; show (w8.heap.push _)[w8.heap.size]? = _; simp
          rw [← hw9]
          clear hw9
          have hW9 := Lib.hid ((hb9.block _ (by have := HS8.out; omega)).trans hW8)
          have hb79 : Below w7.heap.size w7 w9 := hb78.trans (hb9.mono hb78.size)
          have hVR9 := Lib.hid (hvr7.later keyBS hb79)
          have hVF9 := Lib.hid (HF7.out.later keyBS hb79)
          have hB9 := Lib.hid ((hb79.block _ (block_lt HB7.out)).trans HB7.out)
          have hb09 : Below w.heap.size w w9 := hb7.trans (hb79.mono hb7.size)
          have HS9 := Lib.hid hS9
          have hs7w := hb7.size
          have hs8w := HS8.out
          have HN8 := Lib.hid hs8w
          have hIr : I < w7.heap.size := hvr7.ltr keyBS
          have hbFr : bF < w7.heap.size := HF7.out.lt keyBS
          have h89 : w8.heap.size < w9.heap.size := block_lt HS9.out
          have h79 : w7.heap.size + 1 ≤ w8.heap.size := by omega
          clear hb9 hS9 hW8 hb78 hb79 hvr7 HF7 HB7 hb7 hs8w HG7
          generalize w7.heap.size = n7 at *
          generalize w8.heap.size = n8 at *
          have hC9 : Hid (∀ k, k < 41 → pot endsBS hF (goS next m (c + 1)) k + (remC next (goS next m (c + 1)) c p (h p) 0 k + pend endsBS (fun e => T e && !decide (e = p)) h (goS next (m + 1) c) k) = goS next N 0 start k) := by
            intro k hk
            rw [remC_start, ← HHT.out k]
            exact HC.out k hk
          have hD9 : tot 41 endsBS hF + (2 - 0) * sumN 41 (h p) + 2 * totT 41 endsBS (fun e => T e && !decide (e = p)) h ≤ P2 := by omega
          have hE10 : nF + (2 - 0) + 2 * pcnt endsBS (fun e => T e && !decide (e = p)) ≤ 8 := by omega
          clear HHT HC hD hE2 htot hcnt
          go_loopw [39] (fun v wi => ∃ (j nI : Nat) (MI : BS → Option Value) (hI : BS → Nat → Nat), j ≤ 2 ∧ v = .int .i64 j ∧ Hid (VR keyBS wi bR I n M (fun e => T e && !decide (e = p)) cnt7) ∧ Hid (VM keyBS wi bF nI MI) ∧ Hid (WaysOf MI hI) ∧ Hid (∀ k, k < 41 → pot endsBS hI (goS next m (c + 1)) k + (remC next (goS next m (c + 1)) c p (h p) j k + pend endsBS (fun e => T e && !decide (e = p)) h (goS next (m + 1) c) k) = goS next N 0 start k) ∧ tot 41 endsBS hI + (2 - j) * sumN 41 (h p) + 2 * totT 41 endsBS (fun e => T e && !decide (e = p)) h ≤ P2 ∧ nI + (2 - j) + 2 * pcnt endsBS (fun e => T e && !decide (e = p)) ≤ 8 ∧ Hid (wi.heap[w.heap.size]? = some (.cells (wvA fun _ => 0) 54 (0, 0))) ∧ Hid (wi.heap[n7]? = some (.cells (wvA (h p)) 54 (0, 0))) ∧ Hid (wi.heap[n8]? = some (.cells #[.int .u8 42, .int .u8 46] 5 (2, 3))) ∧ Below w.heap.size w wi) (fun v _ => 2 - (intOf v).toNat)
          case atStart => exact ⟨0, nF, MF, hF, Nat.zero_le _, rfl, hVR9, hVF9, HWF, hC9, hD9, hE10, hB9, hW9, HS9, hb09⟩
          case round =>
            clear hVR9 hVF9 HWF hC9 hD9 hE10 hB9 hW9 HS9 hb09
            obtain ⟨j, nI, MI, hI, hj, rfl, HVR, HVF, HWI, HC, hD, hE2, HB1, HWW, HSS, hb⟩ := hrel
            by_cases hj2 : j < 2
            · have hcell := cell_of_block HSS.out j
              have hsg : (#[Value.int .u8 42, .int .u8 46] : Array Value)[j]? = some (.int .u8 ((sgM (decide (j = 0))).toNat : Int)) := by
                match j, hj2 with
                | 0, _ => rfl
                | 1, _ => rfl
              rw [hsg] at hcell
              have hcall := HF.out wr p c (decide (j = 0)) hb hlt
              rw [HPE.out] at hcall
              obtain ⟨qa, hqe⟩ : ∃ a, encB (next p c (decide (j = 0))).1 = .int .u8 a := ⟨_, rfl⟩
              rw [hqe] at hcall
              have HQE := Lib.hid hqe
              have HRS := Lib.hid fun k => remC_step next (goS next m (c + 1)) c p (h p) k hj2
              have hga := hadd p c (decide (j = 0))
              have hps := Lib.hid fun f k hok => pot_step endsBS_nodup endsBS_all next (goS next m (c + 1)) c p (decide (j = 0)) f (h p) k hok
              have hno := Lib.hid fun k hok => conv_no next (goS next m (c + 1)) c p (decide (j = 0)) (h p) k hok
              obtain ⟨e', he'⟩ : ∃ e', (next p c (decide (j = 0))).1 = e' := ⟨_, rfl⟩
              obtain ⟨g', hg'⟩ : ∃ g', (next p c (decide (j = 0))).2.1 = g' := ⟨_, rfl⟩
              have HE' := Lib.hid he'
              have HG' := Lib.hid hg'
              rw [hg'] at hcall hga
              clear hqe he' hg' hsg
              generalize ((sgM (decide (j = 0))).toNat : Int) = sg at *
              cases hok : (next p c (decide (j = 0))).2.2 with
              | false =>
                rw [hok] at hcall
                have HOK := Lib.hid hok
                have HCALL := Lib.hid hcall
                clear hok hcall
                go_wp2_with fail
                refine HCALL.out.mono ?_
                rintro r w10 ⟨rfl, hb10⟩
                go_wp2_with fail
                have hb11 := hb10
                have hC4 : Hid (∀ k, k < 41 → pot endsBS hI (goS next m (c + 1)) k + (remC next (goS next m (c + 1)) c p (h p) (j + 1) k + pend endsBS (fun e => T e && !decide (e = p)) h (goS next (m + 1) c) k) = goS next N 0 start k) := by
                  intro k hk
                  have h1 := HC.out k hk
                  rw [HRS.out k, hno.out k HOK.out, Nat.zero_add] at h1
                  exact h1
                have hmul : (2 - (j + 1)) * sumN 41 (h p) ≤ (2 - j) * sumN 41 (h p) := Nat.mul_le_mul_right _ (by omega)
                go_roundw
                case rel => exact ⟨j + 1, nI, MI, hI, by omega, by go_num, HVR.out.later keyBS hb11, HVF.out.later keyBS hb11, HWI.out, hC4, by omega, by omega, (hb11.block _ (block_lt HB1.out)).trans HB1.out, (hb11.block _ (block_lt HWW.out)).trans HWW.out, (hb11.block _ (block_lt HSS.out)).trans HSS.out, hb.trans (hb11.mono hb.size)⟩
                case measure => simp [intOf]; omega
              | true =>
                rw [hok] at hcall
                have HOK := Lib.hid hok
                have HCALL := Lib.hid hcall
                clear hok hcall
                go_wp2_with fail
                refine HCALL.out.mono ?_
                rintro r w10 ⟨rfl, hb10⟩
                go_upto_region 14 with fail
                have hb11 := hb10
                have hW11 := (hb11.block _ (block_lt HWW.out)).trans HWW.out
                have hqe2 : encB e' = .int .u8 qa := by rw [← HE'.out]; exact HQE.out
                have hVF11 := HVF.out.later keyBS hb11
                have hlook := VM.look_run keyBS 91 54 Try.underlying91 _ (wvZero _) bF nI MI hVF11 e' trivial
                rw [show keyBS.enc e' = encB e' from rfl, hqe2, HWI.out.getD e'] at hlook
                have hbI : ∀ k, k < 41 → hI e' k ≤ 4611686018427387904 := fun k hk => by
                  have := tot_le (endsBS_all e') hk hI
                  omega
                have hbp : ∀ k, k < 41 → h p k ≤ 4611686018427387903 := fun k hk => by
                  have h1 := sumN_one (h p) hk
                  have h2 : 1 * sumN 41 (h p) ≤ (2 - j) * sumN 41 (h p) := Nat.mul_le_mul_right _ (by omega)
                  omega
                have hplus := Lib.hid fun w => plus_any (hI e') (h p) g' w hga hbI hbp
                have HVF11 := Lib.hid hVF11
                have HQE2 := Lib.hid hqe2
                have HW11 := Lib.hid hW11
                clear hVF11 hqe2 hbI hbp hcell hW11
                go_wp2_with (first
                  | (refine wpList_load_row rfl _ _ rfl n7 rfl 54 (wvA (h p)) (0, 0) _ HW11.out Try.underlying54 rfl (wvInfoA _) ?_))
                trace_state
                refine (hplus.out _).mono ?_
                rintro r w12 ⟨rfl, hb12⟩
                have hb12' : Below w10.heap.size w10 w12 := hb12
                have hW12 := (hb12'.block _ (block_lt HW11.out)).trans HW11.out
                obtain ⟨w13, hput, hVF13, ht13⟩ := VM.put_run keyBS 91 54 Try.underlying91 bF nI MI (HVF11.out.later keyBS hb12) e' trivial (.agg (wvA fun j => hI e' j + shiftF (h p) g' j)) (by omega)
                rw [show keyBS.enc e' = encB e' from rfl, HQE2.out] at hput
                have hb12w : Below wr.heap.size wr w12 := hb11.trans (hb12'.mono hb11.size)
                have hkp : ∀ b o, wr.heap[b]? = some o → b ≠ bF → w13.heap[b]? = some o := fun b o ho hne => (ht13.block b (Nat.lt_of_lt_of_le (block_lt ho) hb12w.size) (by simpa using hne)).trans ((hb12w.block b (block_lt ho)).trans ho)
                go_wp2_with fail
                have hC4 : Hid (∀ k, k < 41 → pot endsBS (addE hI e' (h p) g') (goS next m (c + 1)) k + (remC next (goS next m (c + 1)) c p (h p) (j + 1) k + pend endsBS (fun e => T e && !decide (e = p)) h (goS next (m + 1) c) k) = goS next N 0 start k) := by
                  intro k hk
                  have h1 := HC.out k hk
                  have h2 := hps.out hI k HOK.out
                  rw [HE'.out, HG'.out] at h2
                  rw [HRS.out k] at h1
                  rw [h2]
                  omega
                have hD4 : tot 41 endsBS (addE hI e' (h p) g') + (2 - (j + 1)) * sumN 41 (h p) + 2 * totT 41 endsBS (fun e => T e && !decide (e = p)) h ≤ P2 := by
                  have h1 := tot_addE endsBS_nodup (endsBS_all e') 41 hI (h p) g'
                  have h2 : (2 - j) * sumN 41 (h p) = (2 - (j + 1)) * sumN 41 (h p) + sumN 41 (h p) := by
                    rw [show 2 - j = (2 - (j + 1)) + 1 by omega, Nat.add_mul, Nat.one_mul]
                  omega
                have hV13 := (HVR.out.later keyBS hb12w).touch keyBS hneR (by omega) ht13
                have hW13 := HWI.out.put e' (h p) g'
                have hb13 : Below w.heap.size w w13 := (hb.trans (hb12w.mono hb.size)).trans (ht13.below (by omega) (Nat.lt_of_lt_of_le (HVF.out.lt keyBS) hb12w.size))
                have HK := Lib.hid hkp
                have HV13 := Lib.hid hV13
                have HW13 := Lib.hid hW13
                have HVF13 := Lib.hid hVF13
                clear hkp hV13 hW13 hVF13 hW12 hb12 hb12' ht13 hput
                go_wp2_with fail
                go_roundw
                case rel => exact ⟨j + 1, nI + 1, _, _, by omega, by go_num, HV13.out, HVF13.out, HW13.out, hC4, hD4, by omega, HK.out _ _ HB1.out (by omega), HK.out _ _ HWW.out (by omega), HK.out _ _ HSS.out (by omega), hb13⟩
                case measure => simp [intOf]; omega
            · obtain rfl : j = 2 := by omega
              have HC3 : Hid (∀ k, k < 41 → pot endsBS hI (goS next m (c + 1)) k + pend endsBS (fun e => T e && !decide (e = p)) h (goS next (m + 1) c) k = goS next N 0 start k) := by
                intro k hk
                have h1 := HC.out k hk
                rw [remC_end, Nat.zero_add] at h1
                exact h1
              clear HC
              go_wp2_with fail
              go_roundw
              case rel => exact ⟨_, cnt7, nI, MI, hI, HVR.out, HVF.out, HWI.out, HC3.out, by omega, by omega, HB1.out, hb⟩
              case measure => rw [HVR.out.left_eq, HMS.out]; exact hlt7
    · have h0 : N - c = 0 := by omega
      have hcN : c = N := by omega
      have HPZ : Hid (∀ k, k < 41 → sumE endsBS (fun e => h e k) = goS next N 0 start k) := by
        intro k hk
        rw [← HP.out k hk, h0]
        exact (sumE_congr fun e _ => conv_one (h e) k).symm
      have hTN : tot 41 endsBS h ≤ 2199023255552 := by
        refine Nat.le_trans hT ?_
        rw [show (2199023255552 : Nat) = 2 ^ 41 by decide]
        exact Nat.pow_le_pow_right (by decide) (by omega)
      have hdec : decide (c < N) = false := decide_eq_false hlt
      clear HP h0 hcN hT
      have hMR := fun o => HM.out.later keyBS ((Below.refl _ wr).alloc (Nat.le_refl _) o)
      have hMlt := HM.out.lt keyBS
      have HMR := Lib.hid hMR
      have hA5 : (wr.alloc (.cells (wvA fun _ => 0) 54)).heap[wr.heap.size]? = some (.cells (wvA fun _ => 0) 54 (0, 0)) := heap_alloc_new wr _
      have hbA : Below wr.heap.size wr (wr.alloc (.cells (wvA fun _ => 0) 54)) := (Below.refl _ _).alloc (Nat.le_refl _) _
      have hsA : (wr.alloc (.cells (wvA fun _ => 0) 54)).heap.size = wr.heap.size + 1 := by simp
      have HBA := Lib.hid ((hbA.block _ (block_lt HB1.out)).trans HB1.out)
      have HA5 := Lib.hid hA5
      have hbl1 := block_lt HB1.out
      clear hMR HM hA5 HB1
      go_wp2_with (first | (at_range; refine wpList_vm_range keyBS rfl _ _ _ rfl Try.underlying91 bR n M rfl (HMR.out _) ?_; intro w5 cnt hvr hg5 hs5))
      have HB5 := Lib.hid ((hg5.block _ (by omega) (by simp)).trans HBA.out)
      have HC5 := Lib.hid ((hg5.block _ (by omega) (by simp)).trans HA5.out)
      have hb5 : Below w.heap.size w w5 := (HB.trans (hbA.mono HB.size)).trans ⟨hg5.os, hg5.tape, hg5.output, hg5.size, fun k hk => hg5.block k (by have := HB.size; omega) (by simp)⟩
      rw [hsA] at hvr
      have hwB := HB.size
      try rw [hsA]
      try simp only [Act.put, List.setIfInBounds_toArray, List.set_cons_zero, List.set_cons_succ]
      clear HMR hbA hg5 HBA HB hsA HA5 hs5
      have hC0 : Hid (∀ k, k < 41 → (fun _ => 0) k + sumE endsBS (fun e => if (M e).isSome = true then h e k else 0) = goS next N 0 start k) := by
        intro k hk
        rw [← HPZ.out k hk, Nat.zero_add]
        refine sumE_congr fun e _ => ?_
        rcases HW.out e with q | ⟨q, q2⟩
        · rw [if_pos (by rw [q]; rfl)]
        · rw [if_neg (by rw [q]; decide), q2 k hk]
      have hD0 : sumN 41 (fun _ => 0) + totT 41 endsBS (fun p => (M p).isSome) h ≤ 2199023255552 := by
        rw [sumN_zero, Nat.zero_add]
        refine Nat.le_trans (sumE_mono fun e _ => ?_) hTN
        split <;> omega
      generalize hI : wr.heap.size + 1 = I at *
      generalize hnA : wr.heap.size = nA at *
      have hneI : nA < I := by omega
      have hneA : w.heap.size < nA := by omega
      clear hI hnA HPZ hTN
      go_loopw [19] (fun _ w6 => ∃ (T : BS → Bool) (cnt : Nat) (acc : Nat → Nat), Hid (VR keyBS w6 bR I n M T cnt) ∧ Hid (w6.heap[nA]? = some (.cells (wvA acc) 54 (0, 0))) ∧ Hid (∀ k, k < 41 → acc k + sumE endsBS (fun e => if T e = true then h e k else 0) = goS next N 0 start k) ∧ sumN 41 acc + totT 41 endsBS T h ≤ 2199023255552 ∧ Hid (w6.heap[w.heap.size]? = some (.cells (wvA fun _ => 0) 54 (0, 0))) ∧ Below w.heap.size w w6) (fun _ w6 => w6.rangeLeft bR I)
      case atStart => exact ⟨_, _, _, hvr, HC5.out, hC0, hD0, HB5.out, hb5⟩
      case round =>
        clear hvr HC5 hC0 hD0 HB5 hb5
        obtain ⟨T, cnt, acc, HVR, HA, HC, hD, HB1, hb⟩ := hrel
        go_wp2_with (first | (at_next; refine wpList_vm_next keyBS rfl _ rfl bR I n M T cnt rfl HVR.out ?_ ?_))
        case refine_1 =>
          intro hz0 hT0
          have hacc : wvA acc = wvA (goS next N 0 start) := wvA_congr fun k hk => by
            have h1 := HC.out k hk
            rw [sumE_congr (G := fun _ => 0) (fun e _ => by rw [hT0 e trivial]; rfl), sumE_zero, Nat.add_zero] at h1
            exact h1
          have HA2 := HA.out
          rw [hacc] at HA2
          clear hT0 HC hacc HA
          go_wp2_with (first
            | (refine wpList_load_row rfl _ _ rfl nA rfl 54 (wvA (goS next N 0 start)) (0, 0) _ HA2 Try.underlying54 rfl (wvInfoA _) ?_)
            | (refine wpList_store_row rfl _ _ _ rfl w.heap.size (wvA (goS next N 0 start)) rfl rfl 54 _ HB1.out (wvInfoA _) (by rw [wvA_size, wvA_size]) (wvA_one _) ?_))
          have hlv := run_loadVar_row (P := Try.prog) (wr.setRow w.heap.size (wvA (goS next N 0 start))) w.heap.size 54 54 (wvA (goS next N 0 start)) (0, 0) _ (setRow_heap wr _ _ _ _ _ HB1.out) Try.underlying54 rfl (wvInfoA _)
          refine bodyPost_ret (v := .agg (wvA (goS next N 0 start))) ?_ rfl ⟨rfl, below_setRow hb (by omega) _⟩
          simp [results, Try.results56, asAddr, Act.put, hlv]
        case refine_2 =>
          intro p v w7 cnt7 _ hpT hpM hvr7 hlt7 hg7 hs7 hen
          have hv := HW.out.get hpM
          subst hv
          have hstr := fun k => sumE_strike endsBS_nodup (endsBS_all p) T hpT (fun e => h e k)
          have htot := totT_strike endsBS_nodup (endsBS_all p) T hpT 41 h
          have HMS := Lib.hid HVR.out.left_eq
          have HA7 := Lib.hid ((hg7.block _ (block_lt HA.out) (by simp; omega)).trans HA.out)
          have HB7 := Lib.hid ((hg7.block _ (block_lt HB1.out) (by simp; omega)).trans HB1.out)
          have hb7 : Below w.heap.size w w7 := hb.trans ⟨hg7.os, hg7.tape, hg7.output, hg7.size, fun k hk => hg7.block k (by have := hb.size; omega) (by simp; omega)⟩
          have HS7 := Lib.hid hs7
          have HST := Lib.hid hstr
          have hA8 : (w7.alloc (.cells (wvA fun _ => 0) 54)).heap[w7.heap.size]? = some (.cells (wvA fun _ => 0) 54 (0, 0)) := heap_alloc_new w7 _
          have HA8 := Lib.hid hA8
          have hIl : I < w7.heap.size := hvr7.ltr keyBS
          have hnl : nA < w7.heap.size := block_lt HA7.out
          have hbpl : ∀ k, k < 41 → h p k ≤ 4611686018427387903 := fun k hk => by
            have h1 := sumN_one (h p) hk
            omega
          have hacl : ∀ k, k < 41 → acc k ≤ 4611686018427387904 := fun k hk => by
            have h1 := sumN_one acc hk
            omega
          have hplus := fun w => plus_any acc (h p) 0 w (by omega) hacl hbpl
          rw [show (((0 : Nat) : Int)) = 0 from rfl] at hplus
          have HPL := Lib.hid hplus
          rw [show keyBS.enc p = encB p from rfl] at hen ⊢
          generalize encB p = ep at hen ⊢
          clear hs7 hstr hpM hg7 HVR HA HB1 hb hA8 hplus hbpl hacl HW
          go_upto_region 22 with (first
            | (refine wpList_store_row rfl _ _ _ rfl w7.heap.size (wvA (h p)) rfl rfl 54 _ HA8.out (wvInfoA _) (by rw [wvA_size, wvA_size]) (wvA_one _) ?_))
          obtain ⟨w8, hw8⟩ : ∃ w8, w8 = (w7.alloc (.cells (wvA fun _ => 0) 54)).setRow w7.heap.size (wvA (h p)) := ⟨_, rfl⟩
          have hW8 : w8.heap[w7.heap.size]? = some (.cells (wvA (h p)) 54 (0, 0)) := by
            rw [hw8]
            exact setRow_heap _ _ _ _ _ _ HA8.out
          have hb78 : Below w7.heap.size w7 w8 := by rw [hw8]; exact below_setRow ((Below.refl _ _).alloc (Nat.le_refl _) _) (Nat.le_refl _) _
          rw [← hw8]
          clear hw8 HA8
          have HA8 := Lib.hid ((hb78.block _ (block_lt HA7.out)).trans HA7.out)
          have HW8 := Lib.hid hW8
          have hn8 := block_lt hW8
          clear hW8
          go_wp2_with (first
            | (refine wpList_load_row rfl _ _ rfl nA rfl 54 (wvA acc) (0, 0) _ HA8.out Try.underlying54 rfl (wvInfoA _) ?_)
            | (refine wpList_load_row rfl _ _ rfl w7.heap.size rfl 54 (wvA (h p)) (0, 0) _ HW8.out Try.underlying54 rfl (wvInfoA _) ?_))
          refine (HPL.out _).mono ?_
          rintro r w10 ⟨rfl, hb10⟩
          have HA10 := Lib.hid ((hb10.block _ (by omega)).trans HA8.out)
          go_wp2_with (first
            | (refine wpList_store_row rfl _ _ _ rfl nA (wvA fun j => acc j + shiftF (h p) 0 j) rfl rfl 54 _ HA10.out (wvInfoA _) (by rw [wvA_size, wvA_size]) (wvA_one _) ?_))
          have hb710 : Below w7.heap.size w7 w10 := hb78.trans (hb10.mono hb78.size)
          have htA : Touch nA w10 (w10.setRow nA (wvA fun j => acc j + shiftF (h p) 0 j)) := ⟨rfl, rfl, rfl, by simp, fun k _ hne => setRow_other _ _ _ _ (by simpa using hne)⟩
          have hV10 := (hvr7.later keyBS hb710).touch keyBS (show bR ≠ nA by omega) (show I ≠ nA by omega) htA
          have hX10 := setRow_heap w10 nA _ (wvA fun j => acc j + shiftF (h p) 0 j) _ _ HA10.out
          have hB10 := (setRow_other w10 nA w.heap.size (wvA fun j => acc j + shiftF (h p) 0 j) (by omega)).trans ((hb710.block _ (block_lt HB7.out)).trans HB7.out)
          refine ⟨⟨_, _, _, _, _, _, _, _, ⟨_, cnt7, _, hV10, hX10, ?_, ?_, hB10, below_setRow (hb7.trans (hb710.mono hb7.size)) (by omega) _⟩, rfl⟩, ?_⟩
          · intro k hk
            have h1 := HC.out k hk
            rw [HST.out k] at h1
            rw [shiftF_nil]
            omega
          · rw [show (fun j => acc j + shiftF (h p) 0 j) = fun j => acc j + h p j by funext j; rw [shiftF_nil], sumN_add]
            omega
          · rw [hV10.left_eq, HMS.out]; exact hlt7
end Go.Proofs.Ytajabfegeeepeaa
