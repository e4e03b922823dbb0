/- Puzzles that are made, by the model. -/
import Derived.Test.YthlbplmghjaeoaaDoorBA
import Derived.Test.YthlbplmghjaeoaaDoorB8
import Derived.Deep.DeepCutAuto
namespace Go.Proofs.YthlbplmghjaeoaaDoor
open Go.RowKit

theorem mp_no {l : List UInt8} {n s : Int} (h : mpB l n s = false) : mpC l n s = [] ∧ mpX l n s = 0 ∧ mpY l n s = 0 := by simp [mpC, mpX, mpY, h]
theorem tmod_nat (a b : Nat) : (a : Int).tmod (b : Int) = ((a % b : Nat) : Int) := (Int.ofNat_tmod a b).symm
theorem OwnsC.set {w : World} {B g j : Nat} {v u : Value} {cs : List Clu} (h : OwnsC w B v cs) (hg : g < B) : OwnsC (w.setCell ⟨g, j, none⟩ u) B v cs := by
  have hlt := h.lt
  obtain ⟨h1, h2⟩ := h
  refine ⟨h1, ?_⟩
  rcases h2 with h2 | ⟨b, cap, cur, hv, hb, hh, r⟩
  · exact .inl h2
  · exact .inr ⟨b, cap, cur, hv, hb, (away_setC (show b ≠ g by omega)).trans hh, r⟩
set_option maxRecDepth 100000 in
set_option maxHeartbeats 64000000 in
theorem sMake_yes (l : List UInt8) (W H n s : Nat) (cells : List UInt8) (w : World) (hl : l.length ≤ 1048576) (hB : Brd l W H cells) (hs : hsB W H = true) (h9 : W * H ≤ 9) (hn : n ≤ 8) (hs9 : s ≤ 9999) :
    Calls Tryd.prog 12 #[.string ⟨l.toArray⟩, .int .i64 n, .int .i64 s] w fun e w' => ∃ v, e = .returned (.tuple #[.agg #[.int .i64 W, .int .i64 H, v], .bool true]) ∧ RowC w' w.heap.size v (mkL W H cells n s) ∧ Below w.heap.size w w' := by
  have HH := Lib.hid (fun w => pzHidden_any l w hl)
  obtain ⟨g1, g2, g3⟩ := hB.grid
  rw [hB.good, g1, g2, hs] at HH
  have HS := Lib.hid (fun w => boSize_any l w hl)
  rw [hB.size] at HS
  have hi1 : inB n 0 8 = true := by simp [inB]; omega
  have hi2 : inB s 0 9999 = true := by simp [inB]; omega
  have HI1 := Lib.hid (fun w => l1In_any n 0 8 w)
  have HI2 := Lib.hid (fun w => l1In_any s 0 9999 w)
  rw [hi1] at HI1
  rw [hi2] at HI2
  have HNX := Lib.hid (fun z w hz => pzNext_any z w hz)
  have HOF := Lib.hid (fun k a w ha => pzOf_any l W H cells k a w hl hB ha)
  have HLN := Lib.hid hB.len
  have hW1 := hB.w1
  have hW8 := hB.w8
  have hH1 := hB.h1
  have hH8 := hB.h8
  have hdW : ((W : Int) == 0) = false := by simp; omega
  have hdH : ((H : Int) == 0) = false := by simp; omega
  have hWHp : 0 < W * H := Nat.mul_pos hW1 hH1
  have wr1 : IntKind.i64.wrap ((W : Int) * (H : Int)) = ((W * H : Nat) : Int) := by rw [← Int.natCast_mul]; exact IntWalk.i64_in _ ⟨by omega, by omega⟩
  have wr2 : wrap64 ((W : Int) * (H : Int)) = ((W * H : Nat) : Int) := by rw [← Int.natCast_mul]; exact IntWalk.wrap64_in _ ⟨by omega, by omega⟩
  have hdP : (((W * H : Nat) : Int) == 0) = false := by simp; omega
  clear g1 g2 g3 hi1 hi2 hs hB
  have hb0 : Below w.heap.size w (w.alloc (.cells #[.int .i64 0, .int .i64 0, .slice none 0 0] 31)) := (Below.refl _ _).alloc (Nat.le_refl _) _
  have hE0 := heap_alloc_new w (.cells #[.int .i64 0, .int .i64 0, .slice none 0 0] 31)
  go_enter Tryd.func12, Tryd.ntmps12
  go_wp2_with fail
  generalize w.alloc (.cells #[.int .i64 0, .int .i64 0, .slice none 0 0] 31) = w0 at *
  refine (HH.out _).mono ?_
  rintro e w1 ⟨rfl, hb1⟩
  go_wp2_with fail
  refine (HI1.out _).mono ?_
  rintro e w1' ⟨rfl, rfl⟩
  go_wp2_with fail
  refine (HI2.out _).mono ?_
  rintro e w1' ⟨rfl, rfl⟩
  go_wp2_with fail
  refine (HS.out _).mono ?_
  rintro e w2 ⟨rfl, hb2⟩
  have hE2 := (hb2.block _ (block_lt ((hb1.block _ (block_lt hE0)).trans hE0))).trans ((hb1.block _ (block_lt hE0)).trans hE0)
  have hB2 := (hb0.trans (hb1.mono hb0.size)).trans (hb2.mono (hb0.trans (hb1.mono hb0.size)).size)
  clear hb0 hb1 hb2 hE0
  go_wp2_with fail
  have hb3 : Below w2.heap.size w2 (w2.alloc (.cells #[.int .i64 W, .int .i64 H, .slice none 0 0] 31)) := (Below.refl _ _).alloc (Nat.le_refl _) _
  have hG3 := heap_alloc_new w2 (.cells #[.int .i64 W, .int .i64 H, .slice none 0 0] 31)
  have hE3 := (hb3.block _ (block_lt hE2)).trans hE2
  have hB3 := hB2.trans (hb3.mono hB2.size)
  have hGP : w.heap.size ≤ w2.heap.size := hB2.size
  have hEP : w.heap.size < w2.heap.size := block_lt hE2
  have hsz : (w2.alloc (.cells #[.int .i64 W, .int .i64 H, .slice none 0 0] 31)).heap.size = w2.heap.size + 1 := by simp
  clear hb3 hE2 hB2
  generalize w2.alloc (.cells #[.int .i64 W, .int .i64 H, .slice none 0 0] 31) = w3 at *
  generalize w2.heap.size = GP at *
  go_loopw [1, 11] (fun cl zz wr => ∃ k m : Nat, ∃ v : Value, k + m = n ∧ cl = .int .i64 m ∧ zz = .int .i64 (zzK k s : Nat) ∧ zzK k s < 10007 ∧ Hid (wr.heap[GP]? = some (.cells #[.int .i64 W, .int .i64 H, v] 31 (0, 0))) ∧ Hid (wr.heap[w.heap.size]? = some (.cells #[.int .i64 0, .int .i64 0, .slice none 0 0] 31 (0, 0))) ∧ OwnsC wr (GP + 1) v (mkL W H cells k s) ∧ GP + 1 ≤ wr.heap.size ∧ Below w.heap.size w wr) (fun cl _ _ => (intOf cl).toNat)
  case atStart => exact ⟨0, n, .slice none 0 0, by omega, rfl, rfl, by show s < 10007; omega, hG3, hE3, OwnsC.nil _ _, by omega, hB3⟩
  case round =>
    clear hG3 hE3 hB3 hsz
    obtain ⟨k, m, v, hkm, rfl, rfl, hz, hGr, hEr, hOr, hsr, hbr⟩ := hrel
    by_cases hm : 0 < m
    · have hm' : (0 : Int) < (m : Int) := by omega
      have HSN := Lib.hid (mkL_snoc W H cells k s)
      have HZS := Lib.hid (zzK_snoc k s)
      have HML := Lib.hid (mkL_len W H cells k s)
      generalize zzK k s = z at *
      have HN1 := Lib.hid (fun w => HNX.out z w hz)
      have HN2 := Lib.hid (fun w => HNX.out (nxN z) w (nxN_lt z))
      have HZ : Hid (zzN z = if twN z = true then nxN (nxN z) else nxN z) := rfl
      have HT : Hid (twN z = ((((kdN z : Nat) : Int) != 1) && (((kdN z : Nat) : Int) != 5))) := rfl
      have HPL : Hid (plN W H z = if twN z = true then (if kdN z = 3 then nxN (nxN z) % H else if kdN z = 4 then nxN (nxN z) % W else nxN (nxN z) % (W * H)) else 0) := rfl
      have HMC : Hid (∀ w, Calls Tryd.prog 40 #[.int .i64 (kdN z : Nat), .int .i64 (plN W H z : Nat), .string ⟨l.toArray⟩] w fun e w' => e = .returned (valC (mkC W H cells z)) ∧ Below w.heap.size w w') := fun w => HOF.out _ _ w (fun hk => by
        refine ⟨by omega, ?_⟩
        have hk2 : kdN z = 2 := by omega
        have ht : twN z = true := by rw [HT.out, hk2]; decide
        rw [HPL.out, if_pos ht, if_neg (by omega), if_neg (by omega), HLN.out]
        exact Int.ofNat_lt.2 (Nat.mod_lt _ hWHp))
      have e6 : (nxN z : Int).tmod 6 = ((kdN z : Nat) : Int) := tmod_nat (nxN z) 6
      have hz1 := nxN_lt z
      have hz2 := nxN_lt (nxN z)
      have hzz := zzN_lt z
      have hk6 := kdN_lt z
      generalize mkC W H cells z = c at *
      generalize mkL W H cells k s = L at *
      -- CUT
      unfold valC at HMC
      have p10 : twN z = ((((kdN z : Nat) : Int) != 1) && (((kdN z : Nat) : Int) != 5)) := HT.out
      clear p10
      go_upto_region 8 with fail
      go_wp2_with (fail)
      refine (HN1.out _).mono ?_
      rintro e wa ⟨rfl, rfl⟩
      go_upto_region 10 with fail
      go_cut [50] (fun s50 wx => s50 = .bool (twN z) ∧ wr = wx)
      case first =>
        cases d1 : (((kdN z : Nat) : Int) != 1) with
        | false =>
          go_wp2_with fail
          go_meet
          exact ⟨by rw [HT.out, d1]; rfl, rfl⟩
        | true =>
          cases d5 : (((kdN z : Nat) : Int) != 5) with
          | false =>
            go_wp2_with fail
            go_meet
            exact ⟨by rw [HT.out, d1, d5]; rfl, rfl⟩
          | true =>
            go_wp2_with fail
            go_meet
            exact ⟨by rw [HT.out, d1, d5]; rfl, rfl⟩
      case rest =>
        obtain ⟨rfl, rfl⟩ := hcut
        go_upto_if 50 with fail
        go_cut [11, 13] (fun s11 s13 wx => s11 = .int .i64 (zzN z : Nat) ∧ s13 = .int .i64 (plN W H z : Nat) ∧ wr = wx)
        case first =>
          cases ht : twN z with
          | false =>
            have hz0 : plN W H z = 0 := by rw [HPL.out, ht]; rfl
            have hzv : zzN z = nxN z := by rw [HZ.out, ht]; rfl
            go_wp2_with fail
            go_meet
            exact ⟨by rw [hzv], by rw [hz0]; rfl, rfl⟩
          | true =>
            have hzv : zzN z = nxN (nxN z) := by rw [HZ.out, ht]; rfl
            cases d3 : (((kdN z : Nat) : Int) == 3) with
            | true =>
              have hk3 : kdN z = 3 := by have := beq_iff_eq.1 d3; omega
              have hpv : plN W H z = nxN (nxN z) % H := by rw [HPL.out, if_pos ht, if_pos hk3]
              clear hk3
              go_wp2_with fail
              refine (HN2.out _).mono ?_
              rintro e wa ⟨rfl, rfl⟩
              go_wp2_with fail
              go_meet
              exact ⟨by rw [hzv], by rw [hpv]; simp only [Int.natCast_emod, Int.natCast_mul], rfl⟩
            | false =>
              have hk3 : ¬ kdN z = 3 := fun h => by rw [h] at d3; simp at d3
              cases d4 : (((kdN z : Nat) : Int) == 4) with
              | true =>
                have hk4 : kdN z = 4 := by have := beq_iff_eq.1 d4; omega
                have hpv : plN W H z = nxN (nxN z) % W := by rw [HPL.out, if_pos ht, if_neg hk3, if_pos hk4]
                clear hk3 hk4
                go_wp2_with fail
                refine (HN2.out _).mono ?_
                rintro e wa ⟨rfl, rfl⟩
                go_wp2_with fail
                go_meet
                exact ⟨by rw [hzv], by rw [hpv]; simp only [Int.natCast_emod, Int.natCast_mul], rfl⟩
              | false =>
                have hk4 : ¬ kdN z = 4 := fun h => by rw [h] at d4; simp at d4
                have hpv : plN W H z = nxN (nxN z) % (W * H) := by rw [HPL.out, if_pos ht, if_neg hk3, if_neg hk4]
                clear hk3 hk4
                go_wp2_with fail
                refine (HN2.out _).mono ?_
                rintro e wa ⟨rfl, rfl⟩
                go_wp2_with fail
                go_meet
                exact ⟨by rw [hzv], by rw [hpv]; simp only [Int.natCast_emod, Int.natCast_mul], rfl⟩
        case rest =>
          obtain ⟨rfl, rfl, rfl⟩ := hcut
          clear HZ HT HPL HN1 HN2 HNX HOF
          generalize kdN z = kd at *
          generalize plN W H z = pl at *
          generalize nxN z = z1 at *
          generalize zzN z = z2 at *
          go_upto_region 18 with fail
          obtain ⟨av, cv, hv⟩ := hOr.shape
          subst hv
          have hP2 := cell_of_block hGr.out 2
          simp at hP2
          have hP2d : wr.drew.cell? ⟨GP, 2, none⟩ = some (.slice av L.length cv) := hP2
          refine wp_region_held_drew (S := fun _ => True) (by kernel_rfl) trivial (fun hH => ?_)
          refine wpAnyH_take (i := 0) (v := .pointer (some ⟨GP, 2, none⟩)) rfl (by kernel_rfl) (by kernel_rfl) (by kernel_rfl) (fun _ _ _ h => h) (Or.inl ⟨by rfl, fun w' _ => by unfold execOp; go_simp⟩) hH ?_
          simp only [Act.put, List.setIfInBounds_toArray, List.set_cons_zero, List.set_cons_succ]
          refine wpAnyH_take (i := 2) (v := _) rfl (by kernel_rfl) (by kernel_rfl) (by kernel_rfl) (fun _ _ _ h => h) (Or.inl ⟨by rfl, fun _ _ => rfl⟩) hH ?_
          simp only [Act.put, List.setIfInBounds_toArray, List.set_cons_zero, List.set_cons_succ]
          refine wpAnyH_take (i := 3) (v := _) rfl (by kernel_rfl) (by kernel_rfl) (by kernel_rfl) (fun _ _ _ h => h) (Or.inl ⟨by rfl, fun _ _ => rfl⟩) hH ?_
          simp only [Act.put, List.setIfInBounds_toArray, List.set_cons_zero, List.set_cons_succ]
          refine wpAnyH_take (i := 4) (v := _) rfl (by kernel_rfl) (by kernel_rfl) (by kernel_rfl) (fun _ _ _ h => h) (Or.inl ⟨by rfl, fun _ _ => rfl⟩) hH ?_
          simp only [Act.put, List.setIfInBounds_toArray, List.set_cons_zero, List.set_cons_succ]
          refine wpAnyH_ready (rs := [1, 5]) (by kernel_rfl) (by simp) ?_
          refine AllReadyH.cons rfl (fun K hK => ?_) (AllReadyH.cons rfl (fun K hK => ?_) AllReadyH.nil)
          · go_simp
            refine hK.out _ _ trivial (fun _ => ?_)
            clear hK K
            refine wpAnyH_ready (rs := [5]) (by kernel_rfl) (by simp) ?_
            refine AllReadyH.cons rfl (fun K hK => ?_) AllReadyH.nil
            go_simp
            refine (HMC.out _).mono ?_
            rintro e w5 ⟨rfl, hb5⟩
            have hb5' : Below wr.heap.size wr w5 := ofDrewC hb5
            have hG5 := (hb5'.block _ (block_lt hGr.out)).trans hGr.out
            have hO5 := hOr.later hb5'
            have hs5 : GP + 1 ≤ w5.heap.size := Nat.le_trans hsr hb5'.size
            have hB5 := hbr.trans (hb5'.mono hbr.size)
            have hE5 := (hb5'.block _ (block_lt hEr.out)).trans hEr.out
            have hP5 := cell_of_block hG5 2
            simp at hP5
            go_wp2_with fail
            refine hK.out _ _ trivial (fun _ => ?_)
            clear hK K
            refine wpAnyH_ready (rs := [6]) (by kernel_rfl) (by simp) ?_
            refine AllReadyH.cons rfl (fun K hK => ?_) AllReadyH.nil
            go_simp
            have hb6 : Below w5.heap.size w5 (w5.alloc (.cells #[.int .i64 c.k, .int .i64 c.a, .int .i64 c.b] 26)) := (Below.refl _ _).alloc (Nat.le_refl _) _
            have hG6 := (hb6.block _ (block_lt hG5)).trans hG5
            have hE6 := (hb6.block _ (block_lt hE5)).trans hE5
            have hO6 := hO5.later hb6
            have hA6 := at_clue w5 c 26
            have hs6 : GP + 1 ≤ (w5.alloc (.cells #[.int .i64 c.k, .int .i64 c.a, .int .i64 c.b] 26)).heap.size := Nat.le_trans hs5 hb6.size
            have hB6 := hB5.trans (hb6.mono hB5.size)
            refine hK.out _ _ trivial (fun _ => ?_)
            clear hK K
            refine wpAnyH_ready (rs := [7]) (by kernel_rfl) (by simp) ?_
            refine AllReadyH.cons rfl (fun K hK => ?_) AllReadyH.nil
            refine step_appO rfl _ _ rfl (GP + 1) (.slice av L.length cv) L [c] rfl hO6 (some ⟨w5.heap.size, 0, none⟩) 1 1 rfl rfl hA6 hs6 (by have := HML.out; simp; omega) ?_
            intro v7 w7 hO7 hb7
            obtain ⟨a7, n7, c7, hv7⟩ : ∃ a n c, v7 = .slice a n c := by obtain ⟨a, c, h⟩ := hO7.shape; exact ⟨a, _, c, h⟩
            subst hv7
            have hG7 := (hb7.block GP (by omega)).trans hG6
            have hE7 := (hb7.block w.heap.size (by omega)).trans hE6
            have hB7 := hB6.trans (hb7.mono (by omega))
            have hs7 : GP + 1 ≤ w7.heap.size := by have := block_lt hG7; omega
            have hP7 := cell_of_block hG7 2
            simp at hP7
            have hf7 := frozen_of_block hG7 2
            refine hK.out _ _ trivial (fun _ => ?_)
            clear hK K
            refine wpAnyH_ready (rs := [8]) (by kernel_rfl) (by simp) ?_
            refine AllReadyH.cons rfl (fun K hK => ?_) AllReadyH.nil
            go_simp
            refine hK.out _ _ trivial (fun _ => ?_)
            clear hK K
            have hG8 : Hid ((w7.setCell ⟨GP, 2, none⟩ (.slice a7 n7 c7)).heap[GP]? = some (.cells #[.int .i64 W, .int .i64 H, .slice a7 n7 c7] 31 (0, 0))) := block_set hG7 2 _
            have hE8 : Hid ((w7.setCell ⟨GP, 2, none⟩ (.slice a7 n7 c7)).heap[w.heap.size]? = some (.cells #[.int .i64 0, .int .i64 0, .slice none 0 0] 31 (0, 0))) := (away_setC (show w.heap.size ≠ GP by omega)).trans hE7
            have hO8 := hO7.set (g := GP) (j := 2) (u := .slice a7 n7 c7) (by omega)
            have hB8 : Below w.heap.size w (w7.setCell ⟨GP, 2, none⟩ (.slice a7 n7 c7)) := hB7.trans ((Below.set 2 _).mono hGP)
            have hs8 : GP + 1 ≤ (w7.setCell ⟨GP, 2, none⟩ (.slice a7 n7 c7)).heap.size := by simp; omega
            rw [← HSN.out] at hO8
            refine wpAnyH_ready (rs := [9]) (by kernel_rfl) (by simp) ?_
            refine AllReadyH.cons rfl (fun K hK => ?_) AllReadyH.nil
            go_simp
            refine hK.out _ _ trivial (fun _ => ?_)
            clear hK K
            refine wpAnyH_done (by kernel_rfl) ?_ _
            go_wp2_with fail
            go_roundw
            case rel => exact ⟨k + 1, m - 1, .slice a7 n7 c7, by omega, by go_num, by rw [HZS.out], by rw [HZS.out]; exact hzz, hG8, hE8, hO8, hs8, hB8⟩
            case measure => simp [intOf]; omega
          · skip
            go_simp
            refine (HMC.out _).mono ?_
            rintro e w5 ⟨rfl, hb5⟩
            have hb5' : Below wr.heap.size wr w5 := ofDrewC hb5
            have hG5 := (hb5'.block _ (block_lt hGr.out)).trans hGr.out
            have hO5 := hOr.later hb5'
            have hs5 : GP + 1 ≤ w5.heap.size := Nat.le_trans hsr hb5'.size
            have hB5 := hbr.trans (hb5'.mono hbr.size)
            have hE5 := (hb5'.block _ (block_lt hEr.out)).trans hEr.out
            have hP5 := cell_of_block hG5 2
            simp at hP5
            go_wp2_with fail
            refine hK.out _ _ trivial (fun _ => ?_)
            clear hK K
            refine wpAnyH_ready (rs := [1, 6]) (by kernel_rfl) (by simp) ?_
            refine AllReadyH.cons rfl (fun K hK => ?_) (AllReadyH.cons rfl (fun K hK => ?_) AllReadyH.nil)
            · go_simp
              refine hK.out _ _ trivial (fun _ => ?_)
              clear hK K
              refine wpAnyH_ready (rs := [6]) (by kernel_rfl) (by simp) ?_
              refine AllReadyH.cons rfl (fun K hK => ?_) AllReadyH.nil
              go_simp
              have hb6 : Below w5.heap.size w5 (w5.alloc (.cells #[.int .i64 c.k, .int .i64 c.a, .int .i64 c.b] 26)) := (Below.refl _ _).alloc (Nat.le_refl _) _
              have hG6 := (hb6.block _ (block_lt hG5)).trans hG5
              have hE6 := (hb6.block _ (block_lt hE5)).trans hE5
              have hO6 := hO5.later hb6
              have hA6 := at_clue w5 c 26
              have hs6 : GP + 1 ≤ (w5.alloc (.cells #[.int .i64 c.k, .int .i64 c.a, .int .i64 c.b] 26)).heap.size := Nat.le_trans hs5 hb6.size
              have hB6 := hB5.trans (hb6.mono hB5.size)
              refine hK.out _ _ trivial (fun _ => ?_)
              clear hK K
              refine wpAnyH_ready (rs := [7]) (by kernel_rfl) (by simp) ?_
              refine AllReadyH.cons rfl (fun K hK => ?_) AllReadyH.nil
              refine step_appO rfl _ _ rfl (GP + 1) (.slice av L.length cv) L [c] rfl hO6 (some ⟨w5.heap.size, 0, none⟩) 1 1 rfl rfl hA6 hs6 (by have := HML.out; simp; omega) ?_
              intro v7 w7 hO7 hb7
              obtain ⟨a7, n7, c7, hv7⟩ : ∃ a n c, v7 = .slice a n c := by obtain ⟨a, c, h⟩ := hO7.shape; exact ⟨a, _, c, h⟩
              subst hv7
              have hG7 := (hb7.block GP (by omega)).trans hG6
              have hE7 := (hb7.block w.heap.size (by omega)).trans hE6
              have hB7 := hB6.trans (hb7.mono (by omega))
              have hs7 : GP + 1 ≤ w7.heap.size := by have := block_lt hG7; omega
              have hP7 := cell_of_block hG7 2
              simp at hP7
              have hf7 := frozen_of_block hG7 2
              refine hK.out _ _ trivial (fun _ => ?_)
              clear hK K
              refine wpAnyH_ready (rs := [8]) (by kernel_rfl) (by simp) ?_
              refine AllReadyH.cons rfl (fun K hK => ?_) AllReadyH.nil
              go_simp
              refine hK.out _ _ trivial (fun _ => ?_)
              clear hK K
              have hG8 : Hid ((w7.setCell ⟨GP, 2, none⟩ (.slice a7 n7 c7)).heap[GP]? = some (.cells #[.int .i64 W, .int .i64 H, .slice a7 n7 c7] 31 (0, 0))) := block_set hG7 2 _
              have hE8 : Hid ((w7.setCell ⟨GP, 2, none⟩ (.slice a7 n7 c7)).heap[w.heap.size]? = some (.cells #[.int .i64 0, .int .i64 0, .slice none 0 0] 31 (0, 0))) := (away_setC (show w.heap.size ≠ GP by omega)).trans hE7
              have hO8 := hO7.set (g := GP) (j := 2) (u := .slice a7 n7 c7) (by omega)
              have hB8 : Below w.heap.size w (w7.setCell ⟨GP, 2, none⟩ (.slice a7 n7 c7)) := hB7.trans ((Below.set 2 _).mono hGP)
              have hs8 : GP + 1 ≤ (w7.setCell ⟨GP, 2, none⟩ (.slice a7 n7 c7)).heap.size := by simp; omega
              rw [← HSN.out] at hO8
              refine wpAnyH_ready (rs := [9]) (by kernel_rfl) (by simp) ?_
              refine AllReadyH.cons rfl (fun K hK => ?_) AllReadyH.nil
              go_simp
              refine hK.out _ _ trivial (fun _ => ?_)
              clear hK K
              refine wpAnyH_done (by kernel_rfl) ?_ _
              go_wp2_with fail
              go_roundw
              case rel => exact ⟨k + 1, m - 1, .slice a7 n7 c7, by omega, by go_num, by rw [HZS.out], by rw [HZS.out]; exact hzz, hG8, hE8, hO8, hs8, hB8⟩
              case measure => simp [intOf]; omega
            · skip
              go_simp
              have hb6 : Below w5.heap.size w5 (w5.alloc (.cells #[.int .i64 c.k, .int .i64 c.a, .int .i64 c.b] 26)) := (Below.refl _ _).alloc (Nat.le_refl _) _
              have hG6 := (hb6.block _ (block_lt hG5)).trans hG5
              have hE6 := (hb6.block _ (block_lt hE5)).trans hE5
              have hO6 := hO5.later hb6
              have hA6 := at_clue w5 c 26
              have hs6 : GP + 1 ≤ (w5.alloc (.cells #[.int .i64 c.k, .int .i64 c.a, .int .i64 c.b] 26)).heap.size := Nat.le_trans hs5 hb6.size
              have hB6 := hB5.trans (hb6.mono hB5.size)
              have hP6 := cell_of_block hG6 2
              simp at hP6
              refine hK.out _ _ trivial (fun _ => ?_)
              clear hK K
              refine wpAnyH_ready (rs := [1]) (by kernel_rfl) (by simp) ?_
              refine AllReadyH.cons rfl (fun K hK => ?_) AllReadyH.nil
              go_simp
              refine hK.out _ _ trivial (fun _ => ?_)
              clear hK K
              refine wpAnyH_ready (rs := [7]) (by kernel_rfl) (by simp) ?_
              refine AllReadyH.cons rfl (fun K hK => ?_) AllReadyH.nil
              refine step_appO rfl _ _ rfl (GP + 1) (.slice av L.length cv) L [c] rfl hO6 (some ⟨w5.heap.size, 0, none⟩) 1 1 rfl rfl hA6 hs6 (by have := HML.out; simp; omega) ?_
              intro v7 w7 hO7 hb7
              obtain ⟨a7, n7, c7, hv7⟩ : ∃ a n c, v7 = .slice a n c := by obtain ⟨a, c, h⟩ := hO7.shape; exact ⟨a, _, c, h⟩
              subst hv7
              have hG7 := (hb7.block GP (by omega)).trans hG6
              have hE7 := (hb7.block w.heap.size (by omega)).trans hE6
              have hB7 := hB6.trans (hb7.mono (by omega))
              have hs7 : GP + 1 ≤ w7.heap.size := by have := block_lt hG7; omega
              have hP7 := cell_of_block hG7 2
              simp at hP7
              have hf7 := frozen_of_block hG7 2
              refine hK.out _ _ trivial (fun _ => ?_)
              clear hK K
              refine wpAnyH_ready (rs := [8]) (by kernel_rfl) (by simp) ?_
              refine AllReadyH.cons rfl (fun K hK => ?_) AllReadyH.nil
              go_simp
              refine hK.out _ _ trivial (fun _ => ?_)
              clear hK K
              have hG8 : Hid ((w7.setCell ⟨GP, 2, none⟩ (.slice a7 n7 c7)).heap[GP]? = some (.cells #[.int .i64 W, .int .i64 H, .slice a7 n7 c7] 31 (0, 0))) := block_set hG7 2 _
              have hE8 : Hid ((w7.setCell ⟨GP, 2, none⟩ (.slice a7 n7 c7)).heap[w.heap.size]? = some (.cells #[.int .i64 0, .int .i64 0, .slice none 0 0] 31 (0, 0))) := (away_setC (show w.heap.size ≠ GP by omega)).trans hE7
              have hO8 := hO7.set (g := GP) (j := 2) (u := .slice a7 n7 c7) (by omega)
              have hB8 : Below w.heap.size w (w7.setCell ⟨GP, 2, none⟩ (.slice a7 n7 c7)) := hB7.trans ((Below.set 2 _).mono hGP)
              have hs8 : GP + 1 ≤ (w7.setCell ⟨GP, 2, none⟩ (.slice a7 n7 c7)).heap.size := by simp; omega
              rw [← HSN.out] at hO8
              refine wpAnyH_ready (rs := [9]) (by kernel_rfl) (by simp) ?_
              refine AllReadyH.cons rfl (fun K hK => ?_) AllReadyH.nil
              go_simp
              refine hK.out _ _ trivial (fun _ => ?_)
              clear hK K
              refine wpAnyH_done (by kernel_rfl) ?_ _
              go_wp2_with fail
              go_roundw
              case rel => exact ⟨k + 1, m - 1, .slice a7 n7 c7, by omega, by go_num, by rw [HZS.out], by rw [HZS.out]; exact hzz, hG8, hE8, hO8, hs8, hB8⟩
              case measure => simp [intOf]; omega
    · obtain rfl : m = 0 := by omega
      obtain rfl : k = n := by omega
      have p0 := cell_of_block hGr.out 0
      have p1 := cell_of_block hGr.out 1
      have p2 := cell_of_block hGr.out 2
      have z0 := cell_of_block hEr.out 0
      have z1 := cell_of_block hEr.out 1
      have z2 := cell_of_block hEr.out 2
      have zf := frozen_of_block hEr.out
      obtain ⟨av, cv, hv⟩ := hOr.shape
      subst hv
      simp at p0 p1 p2 z0 z1 z2
      go_wp2_with fail
      obtain ⟨hE5, hb5⟩ := puzzle_stored (B := w.heap.size) hEr.out (Nat.le_refl _) (.int .i64 W) (.int .i64 H) (.slice av (mkL W H cells k s).length cv)
      exact bodyPost_ret (res_pair rfl _ _ _ _ _ _ _ _ rfl hE5 Tryd.underlying31 rfl infPuz rfl) rfl ⟨_, rfl, (hOr.row.mono (by omega)).put3 hEr.out, hbr.trans hb5⟩
end Go.Proofs.YthlbplmghjaeoaaDoor
