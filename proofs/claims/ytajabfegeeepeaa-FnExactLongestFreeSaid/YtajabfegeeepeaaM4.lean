/- Strips: the sure signs, by the program. -/
import Derived.Test.YtajabfegeeepeaaM3
import Derived.Test.YtajabfegeeepeaaHL
import Derived.Laws.StructEq
import Derived.DeepKeys
namespace Go.Proofs.Ytajabfegeeepeaa
open Go.RowKit

/-- Have two rows the same ways? -/
def eqW (f g : Nat → Nat) : Bool := (List.range 41).all fun i => ((f i : Int) == (g i : Int))
theorem eqW_iff {f g : Nat → Nat} : eqW f g = true ↔ ∀ i, i < 41 → f i = g i := by
  unfold eqW
  rw [List.all_eq_true]
  constructor
  · intro h i hi
    have := h i (List.mem_range.2 hi)
    rw [beq_iff_eq] at this
    omega
  · intro h i hi
    rw [h i (List.mem_range.1 hi)]
    exact beq_self_eq_true _
theorem eqW_total {f g : Nat → Nat} (h : ∀ i, f i ≤ g i) : eqW f g = decide (sumN 41 f = sumN 41 g) := by
  have h1 := sumN_eq (n := 41) (F := f) (G := g) (fun i _ => h i)
  rw [Bool.eq_iff_iff, eqW_iff, decide_eq_true_iff, h1]
theorem eqW_none (f : Nat → Nat) : eqW f (fun _ => 0) = decide (sumN 41 f = 0) := by
  rw [Bool.eq_iff_iff, eqW_iff, decide_eq_true_iff, sumN_none]
theorem eqItemsW (w : World) (d : Nat) (f g : Nat → Nat) : ∀ is : List Nat, (∀ i ∈ is, i < 41) → (Op.eqItems (d + 1) 3 1 (wvA f) (wvA g) is).run Try.prog w = .ok (is.all fun i => ((f i : Int) == (g i : Int))) w
  | [], _ => by simp [Op.eqItems]
  | i :: r, h => by
    have hi := h i (List.mem_cons_self ..)
    have ih := eqItemsW w d f g r fun j hj => h j (List.mem_cons_of_mem _ hj)
    have p1 : (part 3 (wvA f) (i * 1)).run Try.prog w = .ok (.int .i64 (f i : Nat)) w := by simp [part, Try.isAgg3, wvA_get f hi]
    have p2 : (part 3 (wvA g) (i * 1)).run Try.prog w = .ok (.int .i64 (g i : Nat)) w := by simp [part, Try.isAgg3, wvA_get g hi]
    have p3 := run_equalIn_int w d 3 .i64 .i64 (f i : Int) (g i : Int) Try.underlying3
    simp only [Op.eqItems, Sem.run_bind, p1, p2, p3, Result.andThen_ok, List.all_cons]
    cases ((f i : Int) == (g i : Int))
    · simp
    · simpa using ih
theorem eqWays (f g : Nat → Nat) (w : World) : (Op.equalIn 10000 54 (.agg (wvA f)) (.agg (wvA g))).run Try.prog w = .ok (eqW f g) w := by
  have h := eqItemsW w 9998 f g (List.range 41) fun i hi => List.mem_range.1 hi
  obtain ⟨i, hi⟩ := info_of_underlying Try.underlying3
  have hc : Try.prog.cellsOf 3 = 1 := by kernel_rfl
  have h2 := run_equalIn_array (P := Try.prog) w 9999 (wvA f) (wvA g) Try.underlying54 hi
  rw [hc] at h2
  exact h2.trans h

set_option maxRecDepth 100000 in
set_option maxHeartbeats 6400000 in
theorem iSureStrip_any (l : List UInt8) (w : World) (hl : l.length ≤ 1048576) :
    Calls Try.prog 23 #[.string ⟨l.toArray⟩] w fun e w' => e = .returned (.tuple #[.string ⟨(sureV l).toArray⟩, .bool (sureB l)]) ∧ Below w.heap.size w w' := by
  have hrw := fun w => readWays_any l w hl
  have hz := fun w => wvZero w
  have hbt := wvBuilt
  cases hg : stM l with
  | false =>
    rw [hg] at hrw
    have HRW := Lib.hid hrw
    have e : sureB l = false := by rw [sureB, hg]; rfl
    rw [sure_no e, e]
    clear hrw hg e
    generalize cwT l = f at *
    go_enter Try.func23, Try.ntmps23
    go_wp2_with fail
    refine (HRW.out _).mono ?_
    rintro e w1 ⟨rfl, hb1⟩
    have hA := heap_alloc_new w1 (.cells (wvA fun _ => 0) 54)
    go_upto_region 2 with (first
      | (refine wpList_store_row rfl _ _ _ rfl (w1.heap.size) (wvA f) rfl rfl 54 _ hA (wvInfoA _) (by simp only [wvA_size]) (wvA_one _) ?_))
    have hb2 : Below w1.heap.size w1 ((w1.alloc (.cells (wvA fun _ => 0) 54)).setRow w1.heap.size (wvA f)) := below_setRow ((Below.refl _ _).alloc (Nat.le_refl _) _) (Nat.le_refl _) _
    clear hA
    generalize (w1.alloc (.cells (wvA fun _ => 0) 54)).setRow w1.heap.size (wvA f) = w2 at *
    go_wp2_with fail
    go_ret2
    exact ⟨rfl, hb1.trans (hb2.mono hb1.size)⟩
  | true =>
    obtain ⟨hn1, hn40, hst⟩ := stM_facts hg
    rw [cwT_yes hg] at hrw
    rw [hg] at hrw
    have HRW := Lib.hid hrw
    have hall := allC_nil hn40
    have hsb : sureB l = !(allC l [] == 0) := by rw [sureB, hg]; rfl
    have hsv := sure_yes (l := l)
    have hsn := sure_no (l := l)
    have hq0 := fun w => eqWays (fitW l []) (fun _ => 0) w
    rw [eqW_none, hall] at hq0
    by_cases h0 : allC l [] = 0
    · have e : sureB l = false := by rw [hsb, h0]; rfl
      rw [hsn e, e]
      rw [decide_eq_true h0] at hq0
      clear hg e h0 hall hsb hsv hsn hrw hst
      generalize fitW l [] = f at *
      go_enter Try.func23, Try.ntmps23
      go_wp2_with fail
      refine (HRW.out _).mono ?_
      rintro e w1 ⟨rfl, hb1⟩
      have hA := heap_alloc_new w1 (.cells (wvA fun _ => 0) 54)
      go_upto_region 2 with (first
        | (refine wpList_store_row rfl _ _ _ rfl (w1.heap.size) (wvA f) rfl rfl 54 _ hA (wvInfoA _) (by simp only [wvA_size]) (wvA_one _) ?_))
      have hB := setRow_heap (w1.alloc (.cells (wvA fun _ => 0) 54)) w1.heap.size _ (wvA f) _ _ hA
      have hb2 : Below w1.heap.size w1 ((w1.alloc (.cells (wvA fun _ => 0) 54)).setRow w1.heap.size (wvA f)) := below_setRow ((Below.refl _ _).alloc (Nat.le_refl _) _) (Nat.le_refl _) _
      clear hA
      generalize (w1.alloc (.cells (wvA fun _ => 0) 54)).setRow w1.heap.size (wvA f) = w2 at *
      have HB := Lib.hid hB
      clear hB
      go_wp2_with (first | (refine wpList_load_rowG (by kernel_rfl) _ _ rfl w1.heap.size rfl 54 (wvA f) (0, 0) _ HB.out Try.underlying54 rfl (wvInfoA _) ?_))
      go_ret2
      exact ⟨rfl, hb1.trans (hb2.mono hb1.size)⟩
    · have e : sureB l = true := by rw [hsb]; simpa using h0
      rw [hsv e, e]
      rw [decide_eq_false h0] at hq0
      have hww := fun (k : Nat) (hk : k < l.length) (w : World) => waysWithMine_any l k w hn40 (by omega)
      have HWW := Lib.hid hww
      have hqa : ∀ k, k < l.length → ∀ w, (Op.equalIn 10000 54 (.agg (wvA (fitW l (atT k)))) (.agg (wvA (fitW l [])))).run Try.prog w = .ok (decide (stAtM l k = allC l [])) w := fun k hk w => by
        have h := eqWays (fitW l (atT k)) (fitW l []) w
        rw [eqW_total (fitW_le l (atT k)), fitW_all l (atT k) hn40, hall, cnt_at hst hk] at h
        exact h
      have hqz : ∀ k, k < l.length → ∀ w, (Op.equalIn 10000 54 (.agg (wvA (fitW l (atT k)))) (.agg (wvA (fun _ => 0)))).run Try.prog w = .ok (decide (stAtM l k = 0)) w := fun k hk w => by
        have h := eqWays (fitW l (atT k)) (fun _ => 0) w
        rw [eqW_none, fitW_all l (atT k) hn40, cnt_at hst hk] at h
        exact h
      have HQA := Lib.hid hqa
      have HQZ := Lib.hid hqz
      have HSC : Hid (∀ k, suC l k = if stAtM l k = 0 then 46 else if stAtM l k = allC l [] then 42 else 63) := fun _ => rfl
      have HSM : Hid (suM l = suK l l.length) := rfl
      have HST := Lib.hid hst
      have hA0 : 0 < allC l [] := by omega
      clear hg e h0 hall hsb hsv hsn hrw hst hww hqa hqz
      generalize allC l [] = A at *
      generalize fitW l [] = f at *
      go_enter Try.func23, Try.ntmps23
      go_wp2_with fail
      refine (HRW.out _).mono ?_
      rintro e w1 ⟨rfl, hb1⟩
      have hA := heap_alloc_new w1 (.cells (wvA fun _ => 0) 54)
      go_upto_region 2 with (first
        | (refine wpList_store_row rfl _ _ _ rfl (w1.heap.size) (wvA f) rfl rfl 54 _ hA (wvInfoA _) (by simp only [wvA_size]) (wvA_one _) ?_))
      have hB := setRow_heap (w1.alloc (.cells (wvA fun _ => 0) 54)) w1.heap.size _ (wvA f) _ _ hA
      have hb2 : Below w1.heap.size w1 ((w1.alloc (.cells (wvA fun _ => 0) 54)).setRow w1.heap.size (wvA f)) := below_setRow ((Below.refl _ _).alloc (Nat.le_refl _) _) (Nat.le_refl _) _
      clear hA
      generalize (w1.alloc (.cells (wvA fun _ => 0) 54)).setRow w1.heap.size (wvA f) = w2 at *
      have HB := Lib.hid hB
      have hbl := block_lt hB
      clear hB
      go_wp2_with (first | (refine wpList_load_rowG (by kernel_rfl) _ _ rfl w1.heap.size rfl 54 (wvA f) (0, 0) _ HB.out Try.underlying54 rfl (wvInfoA _) ?_))
      clear hq0
      have hI : (w2.iter ⟨l.toArray⟩ 0).heap[w2.heap.size]? = some (.stringIter ⟨l.toArray⟩ 0) := World.iter_heap w2 _ _
      have hbi : Below w2.heap.size w2 (w2.iter ⟨l.toArray⟩ 0) := (Below.refl _ _).alloc (Nat.le_refl _) _
      have HB4 := Lib.hid ((hbi.block _ hbl).trans HB.out)
      have hb4 : Below w.heap.size w (w2.iter ⟨l.toArray⟩ 0) := (hb1.trans (hb2.mono hb1.size)).trans (hbi.mono (by have := hb1.size; have := hb2.size; omega))
      have hws : w.heap.size ≤ w2.heap.size := by have := hb1.size; have := hb2.size; omega
      have hws1 := hb1.size
      generalize w2.iter ⟨l.toArray⟩ 0 = w4 at *
      generalize hII : w2.heap.size = I at *
      generalize hGG : w1.heap.size = G at *
      clear hII hGG hbi hb1 hb2 HB HRW
      go_loopw [6] (fun v wr => ∃ k : Nat, k ≤ l.length ∧ Owns wr (I + 1) 5 v (byts (suK l k)) ∧ Hid (wr.heap[I]? = some (.stringIter ⟨l.toArray⟩ k)) ∧ Hid (wr.heap[G]? = some (.cells (wvA f) 54 (0, 0))) ∧ Below w.heap.size w wr) (fun _ wr => l.length - wr.iterPos I)
      case atStart => exact ⟨0, Nat.zero_le _, Owns.nil _ _ _, hI, HB4.out, hb4⟩
      case round =>
        clear hI hb4 HB4
        obtain ⟨k, hk, hown, hIr, HG4, hb⟩ := hrel
        have hIlt := block_lt hIr.out
        by_cases hlt : k < l.length
        · have hasc := stB_ascii (HST.out _ (List.getElem_mem hlt))
          have hnx := fun ty => Lib.run_next_ascii_at (P := Try.prog) wr I ⟨l.toArray⟩ k ty hIr.out (by simpa [ByteArray.size] using hlt) (by simpa using hasc)
          have hpos := Lib.hid (iterPos_at hIr.out)
          have i1 := iterAt_at hIlt ⟨l.toArray⟩ (k + 1)
          have i2 := iterAt_below wr I ⟨l.toArray⟩ (k + 1)
          have hbi : Below w.heap.size w (wr.iterAt I ⟨l.toArray⟩ (k + 1)) := hb.trans (i2.mono hws)
          have hGi := (i2.block G hbl).trans HG4.out
          have hoi := hown.iter I ⟨l.toArray⟩ (k + 1) (by omega)
          have HOI := Lib.hid hoi
          have HC := Lib.hid fun w => HWW.out k hlt w
          have hq1 := fun w => HQA.out k hlt w
          have hq2 := fun w => HQZ.out k hlt w
          have hsc := Lib.hid (HSC.out k)
          have hsn := Lib.hid (suK_snoc l k)
          have hskl : (suK l k).length ≤ 40 := by rw [suK_length]; omega
          generalize stAtM l k = T at *
          generalize fitW l (atT k) = g at *
          generalize suC l k = u at *
          generalize suK l k = S at *
          have HGI := Lib.hid hGi
          clear hasc hown hoi hGi
          by_cases h1 : T = A
          · have q1 : decide (T = A) = true := decide_eq_true h1
            have HU : Hid (u = 42) := by rw [Hid, hsc.out, if_neg (by omega), if_pos h1]
            have p1 := hq1
            rw [q1] at p1
            clear hq1 hq2
            go_upto_region 8 with fail
            clear hnx
            have H1 := HOI.out
            have H2 := HGI.out
            have H3 := hbi
            have H4 := i1
            clear HOI HGI hbi i1 i2
            generalize wr.iterAt I ⟨l.toArray⟩ (k + 1) = wi at *
            have hIlt5 := block_lt H4
            have hGlt5 := block_lt H2
            have hwi := H3.size
            have HO := Lib.hid H1
            have HG := Lib.hid H2
            have HI := Lib.hid H4
            clear H1 H2 H4
            go_wp2_with fail
            refine (HC.out _).mono ?_
            rintro e w6 ⟨rfl, hb6⟩
            have HG6 := Lib.hid ((hb6.block _ hGlt5).trans HG.out)
            have HI6 := Lib.hid ((hb6.block _ hIlt5).trans HI.out)
            have hO6 := HO.out.later hb6
            have hs6 := hb6.size
            have hbw6 := H3.trans (hb6.mono hwi)
            clear HG HI HO hb6
            go_wp2_with (first
              | (refine wpList_load_row rfl _ _ rfl G rfl 54 (wvA f) (0, 0) _ HG6.out Try.underlying54 rfl (wvInfoA _) ?_)
              | (at_builtin; refine wpList_app1 rfl _ _ _ rfl _ _ _ _ elemByte _ _ _ _ rfl rfl rfl hO6 rfl (by simp; omega) (by omega) (by simp; omega) ?_; intro v1 w8 hown1 hb8 hs8))
            have hB8 := (hb8.block G (by omega)).trans HG6.out
            have hI8 := (hb8.block I (by omega)).trans HI6.out
            have ip := Lib.hid (iterPos_at hI8)
            have e8 : byts S ++ [Value.int .u8 42] = byts (S ++ [42]) := by simp [byts]
            rw [e8] at hown1
            go_roundw
            case rel => exact ⟨k + 1, by omega, by rw [← hsn.out, HU.out]; exact hown1, hI8, hB8, hbw6.trans (hb8.mono (by omega))⟩
            case measure => rw [hpos.out, ip.out]; omega
          · have q1 : decide (T = A) = false := decide_eq_false h1
            by_cases h2 : T = 0
            · have q2 : decide (T = 0) = true := decide_eq_true h2
              have HU : Hid (u = 46) := by rw [Hid, hsc.out, if_pos h2]
              have p1 := hq1
              rw [q1] at p1
              have p2 := hq2
              rw [q2] at p2
              clear hq1 hq2
              go_upto_region 8 with fail
              clear hnx
              have H1 := HOI.out
              have H2 := HGI.out
              have H3 := hbi
              have H4 := i1
              clear HOI HGI hbi i1 i2
              generalize wr.iterAt I ⟨l.toArray⟩ (k + 1) = wi at *
              have hIlt5 := block_lt H4
              have hGlt5 := block_lt H2
              have hwi := H3.size
              have HO := Lib.hid H1
              have HG := Lib.hid H2
              have HI := Lib.hid H4
              clear H1 H2 H4
              go_wp2_with fail
              refine (HC.out _).mono ?_
              rintro e w6 ⟨rfl, hb6⟩
              have HG6 := Lib.hid ((hb6.block _ hGlt5).trans HG.out)
              have HI6 := Lib.hid ((hb6.block _ hIlt5).trans HI.out)
              have hO6 := HO.out.later hb6
              have hs6 := hb6.size
              have hbw6 := H3.trans (hb6.mono hwi)
              clear HG HI HO hb6
              go_wp2_with (first
                | (refine wpList_load_row rfl _ _ rfl G rfl 54 (wvA f) (0, 0) _ HG6.out Try.underlying54 rfl (wvInfoA _) ?_)
                | (at_builtin; refine wpList_app1 rfl _ _ _ rfl _ _ _ _ elemByte _ _ _ _ rfl rfl rfl hO6 rfl (by simp; omega) (by omega) (by simp; omega) ?_; intro v1 w8 hown1 hb8 hs8))
              have hB8 := (hb8.block G (by omega)).trans HG6.out
              have hI8 := (hb8.block I (by omega)).trans HI6.out
              have ip := Lib.hid (iterPos_at hI8)
              have e8 : byts S ++ [Value.int .u8 46] = byts (S ++ [46]) := by simp [byts]
              rw [e8] at hown1
              go_roundw
              case rel => exact ⟨k + 1, by omega, by rw [← hsn.out, HU.out]; exact hown1, hI8, hB8, hbw6.trans (hb8.mono (by omega))⟩
              case measure => rw [hpos.out, ip.out]; omega
            · have q2 : decide (T = 0) = false := decide_eq_false h2
              have HU : Hid (u = 63) := by rw [Hid, hsc.out, if_neg h2, if_neg h1]
              have p1 := hq1
              rw [q1] at p1
              have p2 := hq2
              rw [q2] at p2
              clear hq1 hq2
              go_upto_region 8 with fail
              clear hnx
              have H1 := HOI.out
              have H2 := HGI.out
              have H3 := hbi
              have H4 := i1
              clear HOI HGI hbi i1 i2
              generalize wr.iterAt I ⟨l.toArray⟩ (k + 1) = wi at *
              have hIlt5 := block_lt H4
              have hGlt5 := block_lt H2
              have hwi := H3.size
              have HO := Lib.hid H1
              have HG := Lib.hid H2
              have HI := Lib.hid H4
              clear H1 H2 H4
              go_wp2_with fail
              refine (HC.out _).mono ?_
              rintro e w6 ⟨rfl, hb6⟩
              have HG6 := Lib.hid ((hb6.block _ hGlt5).trans HG.out)
              have HI6 := Lib.hid ((hb6.block _ hIlt5).trans HI.out)
              have hO6 := HO.out.later hb6
              have hs6 := hb6.size
              have hbw6 := H3.trans (hb6.mono hwi)
              clear HG HI HO hb6
              go_wp2_with (first
                | (refine wpList_load_row rfl _ _ rfl G rfl 54 (wvA f) (0, 0) _ HG6.out Try.underlying54 rfl (wvInfoA _) ?_)
                | (at_builtin; refine wpList_app1 rfl _ _ _ rfl _ _ _ _ elemByte _ _ _ _ rfl rfl rfl hO6 rfl (by simp; omega) (by omega) (by simp; omega) ?_; intro v1 w8 hown1 hb8 hs8))
              have hB8 := (hb8.block G (by omega)).trans HG6.out
              have hI8 := (hb8.block I (by omega)).trans HI6.out
              have ip := Lib.hid (iterPos_at hI8)
              have e8 : byts S ++ [Value.int .u8 63] = byts (S ++ [63]) := by simp [byts]
              rw [e8] at hown1
              go_roundw
              case rel => exact ⟨k + 1, by omega, by rw [← hsn.out, HU.out]; exact hown1, hI8, hB8, hbw6.trans (hb8.mono (by omega))⟩
              case measure => rw [hpos.out, ip.out]; omega
        · obtain rfl : k = l.length := by omega
          have hnx := fun ty => Lib.run_next_end_at (P := Try.prog) wr I ⟨l.toArray⟩ l.length ty hIr.out (by simp [ByteArray.size])
          rw [← HSM.out] at hown
          have hln : (suM l).length = l.length := by rw [HSM.out, suK_length]
          obtain ⟨a', cap', hv⟩ := hown.shape
          subst hv
          obtain ⟨bb, oo, he, hc0⟩ := byts_at hown.at 0 (by omega)
          subst he
          have hcells : ∀ j (hj : j < (suM l).length), wr.cell? ((⟨bb, oo, none⟩ : Addr).add j) = some (.int .u8 ((suM l)[j].toNat : Int)) := by
            intro j hj
            obtain ⟨b', o', he', hc'⟩ := byts_at hown.at j hj
            simp only [Option.some.injEq, Addr.mk.injEq, and_true] at he'
            obtain ⟨rfl, rfl⟩ := he'
            rw [Addr.add_lit, hc']
          have hcv := run_convert_bytes_back (P := Try.prog) wr 42 9 5 ⟨bb, oo, none⟩ cap' (suM l) Try.underlying42 Try.underlying5 Try.underlying9 hcells
          simp only [byts_length] at hcv ⊢
          rw [hln] at hcv ⊢
          clear hcells hc0 hown hln
          go_wp2_with fail
          go_ret2
          exact ⟨rfl, hb⟩
end Go.Proofs.Ytajabfegeeepeaa
