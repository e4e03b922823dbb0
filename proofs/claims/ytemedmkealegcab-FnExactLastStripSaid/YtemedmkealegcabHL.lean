/- Strips: the list before which just so many others fit, by the program. -/
import Derived.Test.YtemedmkealegcabHK
namespace Go.Proofs.Ytemedmkealegcab
open Go.RowKit

theorem wpList_load_rowG {P : Program} {ops : Array Oper} {rest : List Oper} {o : Oper} {a : Act} {w : World} {Q : Exit → Act → World → Prop} (hw : Region.wanted o (yielded ops a.tmps) = true) (ty : TypeId) (x : Operand) (ho : o.op = .load ty x)
    (g : Nat) (hx : a.eval x = .pointer (some ⟨g, 0, none⟩)) (t : TypeId) (cs : Array Value) (fr : Nat × Nat) (d : TypeDesc) (hg : w.heap[g]? = some (.cells cs t fr))
    (hu : P.underlying ty = some d) (hd : (match d with | .struct _ | .array _ _ => true | _ => false) = true) (hi : (P.info? ty).map (·.size) = some cs.size)
    (h : wpList P ops Q rest (a.put o.dst (.agg cs)) w) : wpList P ops Q (o :: rest) a w :=
  wpList_step fun K hK => by simp only [hw, if_true]; exact wp_load_row ty x ho g hx t cs fr d hg hu hd hi (hK _ _ h)

set_option maxRecDepth 100000 in
set_option maxHeartbeats 3200000 in
theorem iStripOfRank_any (l : List UInt8) (c : Int) (w : World) (hl : l.length ≤ 1048576) :
    Calls Try.prog 17 #[.string ⟨l.toArray⟩, .int .i64 c] w fun e w' => e = .returned (.tuple #[.string ⟨(sorV l c).toArray⟩, .bool (sorB l c)]) ∧ Below w.heap.size w w' := by
  have hrw := fun w => readWays_any l w hl
  have htt := fun w => total_any (cwT l) w (cwT_total l)
  have hz := fun w => wvZero w
  have hbt := wvBuilt
  cases hg : stM l with
  | false =>
    rw [hg] at hrw
    have HRW := Lib.hid hrw
    have e := sor_bad (c := c) hg
    rw [sor_no e, e]
    clear htt
    generalize cwT l = f at *
    clear hrw hg e
    go_enter Try.func17, Try.ntmps17
    go_wp2_with fail
    refine (HRW.out _).mono ?_
    rintro e w1 ⟨rfl, hb1⟩
    have hA := heap_alloc_new w1 (.cells (wvA fun _ => 0) 40)
    go_upto_region 2 with (first
      | (refine wpList_store_row rfl _ _ _ rfl (w1.heap.size) (wvA f) rfl rfl 40 _ hA (wvInfoA _) (by simp only [wvA_size]) (wvA_one _) ?_))
    have hb2 : Below w1.heap.size w1 ((w1.alloc (.cells (wvA fun _ => 0) 40)).setRow w1.heap.size (wvA f)) := below_setRow ((Below.refl _ _).alloc (Nat.le_refl _) _) (Nat.le_refl _) _
    clear hA
    generalize (w1.alloc (.cells (wvA fun _ => 0) 40)).setRow w1.heap.size (wvA f) = w2 at *
    go_wp2_with fail
    go_ret2
    exact ⟨rfl, hb1.trans (hb2.mono hb1.size)⟩
  | true =>
    rw [hg] at hrw
    have HRW := Lib.hid hrw
    by_cases hc0 : c < 0
    · have e : sorB l c = false := sor_out (by omega)
      rw [sor_no e, e]
      clear htt
      generalize cwT l = f at *
      clear hrw hg e
      go_enter Try.func17, Try.ntmps17
      go_wp2_with fail
      refine (HRW.out _).mono ?_
      rintro e w1 ⟨rfl, hb1⟩
      have hA := heap_alloc_new w1 (.cells (wvA fun _ => 0) 40)
      go_upto_region 2 with (first
        | (refine wpList_store_row rfl _ _ _ rfl (w1.heap.size) (wvA f) rfl rfl 40 _ hA (wvInfoA _) (by simp only [wvA_size]) (wvA_one _) ?_))
      have hb2 : Below w1.heap.size w1 ((w1.alloc (.cells (wvA fun _ => 0) 40)).setRow w1.heap.size (wvA f)) := below_setRow ((Below.refl _ _).alloc (Nat.le_refl _) _) (Nat.le_refl _) _
      clear hA
      generalize (w1.alloc (.cells (wvA fun _ => 0) 40)).setRow w1.heap.size (wvA f) = w2 at *
      go_wp2_with fail
      go_ret2
      exact ⟨rfl, hb1.trans (hb2.mono hb1.size)⟩
    · obtain ⟨hn1, hn40, hst⟩ := stM_facts hg
      obtain ⟨k, rfl⟩ : ∃ k : Nat, c = (k : Int) := ⟨c.toNat, by omega⟩
      have hyes := fun (h : k < sumN 41 (cwT l)) => sor_yes hg h
      have hout := fun (h : ¬ ((0 : Int) ≤ (k : Int) ∧ (k : Int) < (sumN 41 (cwT l) : Nat))) => sor_out (l := l) (c := (k : Int)) h
      have hT := cwT_total l
      have hfit : ∀ (t : List Bool) (_ : t.length < l.length) (w : World), Calls Try.prog 36 #[.string ⟨l.toArray⟩, .string ⟨(t.map sgM ++ [42]).toArray⟩] w fun e w' => e = .returned (.agg (wvA (fitW l ((t ++ [true]).map sgM)))) ∧ Below w.heap.size w w' := fun t ht w => by
        rw [(sg_text t).1]
        exact fittingWays_any l _ w hn40 (by simp; omega)
      have HFIT := Lib.hid hfit
      have HTT := Lib.hid htt
      generalize sumN 41 (cwT l) = T at *
      generalize cwT l = f at *
      have hkz : ¬ (k : Int) < 0 := by omega
      clear hrw htt hfit
      by_cases hkT : k < T
      · obtain ⟨e1, e2⟩ := hyes hkT
        rw [e1, e2]
        have HT : Hid (rkT l k = (rkS l l.length [] k).map sgM) := rfl
        have hkz2 : ¬ (k : Int) ≥ (T : Int) := by omega
        have hTk : ¬ T ≤ k := by omega
        have hk0 : decide ((k : Int) < 0) = false := decide_eq_false hkz
        have hkz3 : (k : Int) < (T : Int) := by omega
        clear hyes hout e1 e2 hg
        go_enter Try.func17, Try.ntmps17
        go_wp2_with fail
        refine (HRW.out _).mono ?_
        rintro e w1 ⟨rfl, hb1⟩
        have hA := heap_alloc_new w1 (.cells (wvA fun _ => 0) 40)
        go_upto_region 2 with (first
          | (refine wpList_store_row rfl _ _ _ rfl (w1.heap.size) (wvA f) rfl rfl 40 _ hA (wvInfoA _) (by simp only [wvA_size]) (wvA_one _) ?_))
        have hB := setRow_heap (w1.alloc (.cells (wvA fun _ => 0) 40)) w1.heap.size _ (wvA f) _ _ hA
        have hb2 : Below w1.heap.size w1 ((w1.alloc (.cells (wvA fun _ => 0) 40)).setRow w1.heap.size (wvA f)) := below_setRow ((Below.refl _ _).alloc (Nat.le_refl _) _) (Nat.le_refl _) _
        clear hA
        generalize (w1.alloc (.cells (wvA fun _ => 0) 40)).setRow w1.heap.size (wvA f) = w2 at *
        go_wp2_with (first
          | (refine wpList_load_rowG (by kernel_rfl) _ _ rfl w1.heap.size rfl 40 (wvA f) (0, 0) _ hB Try.underlying40 rfl (wvInfoA _) ?_))
        refine (HTT.out _).mono ?_
        rintro e w3 ⟨rfl, hb3⟩
        have hb03 : Below w.heap.size w w3 := (hb1.trans (hb2.mono hb1.size)).trans (hb3.mono (by have := hb1.size; have := hb2.size; omega))
        clear hb1 hb2 hb3 hB HRW
        go_wp2_with fail
        have hI : (w3.iter ⟨l.toArray⟩ 0).heap[w3.heap.size]? = some (.stringIter ⟨l.toArray⟩ 0) := World.iter_heap w3 _ _
        have hb4 : Below w.heap.size w (w3.iter ⟨l.toArray⟩ 0) := hb03.trans (((Below.refl _ _).alloc (Nat.le_refl _) _).mono hb03.size)
        have hws := hb03.size
        generalize w3.iter ⟨l.toArray⟩ 0 = w4 at *
        generalize hII : w3.heap.size = I at *
        clear hII hb03
        go_loopw [1, 8] (fun v o wr => ∃ (t : List Bool) (q : Nat), t.length ≤ l.length ∧ q ≤ 4611686018427387904 ∧ v = .int .i64 q ∧ o = .string ⟨(t.map sgM).toArray⟩ ∧ Hid (wr.heap[I]? = some (.stringIter ⟨l.toArray⟩ t.length)) ∧ Hid (rkS l (l.length - t.length) t q = rkS l l.length [] k) ∧ Below w.heap.size w wr) (fun _ _ wr => l.length - wr.iterPos I)
        case atStart => exact ⟨[], k, Nat.zero_le _, by omega, rfl, rfl, hI, rfl, hb4⟩
        case round =>
          clear hI hb4
          obtain ⟨t, q, ht, hq, rfl, rfl, hIr, HR, hb⟩ := hrel
          have hIlt := block_lt hIr.out
          by_cases hlt : t.length < l.length
          · have hasc := stB_ascii (hst _ (List.getElem_mem hlt))
            have hnx := fun ty => Lib.run_next_ascii_at (P := Try.prog) wr I ⟨l.toArray⟩ t.length ty hIr.out (by simpa [ByteArray.size] using hlt) (by simpa using hasc)
            have hpos := Lib.hid (iterPos_at hIr.out)
            have i1 := iterAt_at hIlt ⟨l.toArray⟩ (t.length + 1)
            have i2 := iterAt_below wr I ⟨l.toArray⟩ (t.length + 1)
            have hbi : Below w.heap.size w (wr.iterAt I ⟨l.toArray⟩ (t.length + 1)) := hb.trans (i2.mono hws)
            have HFC := Lib.hid fun w => HFIT.out t hlt w
            have htq := fun w => total_any (fitW l ((t ++ [true]).map sgM)) w (fitW_tot40 l _ hn40)
            have hAl : rkA l t ≤ 4611686018427387904 := fitW_tot40 l _ hn40
            rw [show sumN 41 (fitW l ((t ++ [true]).map sgM)) = rkA l t from rfl] at htq
            have HTQ := Lib.hid htq
            generalize fitW l ((t ++ [true]).map sgM) = g at *
            obtain ⟨n, hn⟩ : ∃ n, l.length - t.length = n + 1 := ⟨l.length - t.length - 1, by omega⟩
            have hrr := HR.out
            rw [hn] at hrr
            clear htq hasc i2 hb
            by_cases hc : q < rkA l t
            · rw [rkS_yes hc] at hrr
              have HRR := Lib.hid hrr
              have hcz : ¬ ((rkA l t : Nat) : Int) ≤ (q : Int) := by omega
              have hcn : ¬ rkA l t ≤ q := by omega
              generalize rkA l t = A at *
              have HN := Lib.hid hn
              clear hrr hn HR
              go_upto_region 7 with fail
              clear hnx
              generalize wr.iterAt I ⟨l.toArray⟩ (t.length + 1) = w5 at *
              have hIlt5 := block_lt i1
              go_wp2_with fail
              refine (HFC.out _).mono ?_
              rintro e w6 ⟨rfl, hb6⟩
              go_wp2_with fail
              refine (HTQ.out _).mono ?_
              rintro e w7 ⟨rfl, hb7⟩
              go_wp2_with fail
              have hI7 := (hb7.block _ (by have := hb6.size; omega)).trans ((hb6.block _ hIlt5).trans i1)
              have ip := Lib.hid (iterPos_at hI7)
              go_roundw
              case rel => exact ⟨t ++ [true], q, by simp; omega, hq, rfl, by rw [(sg_text t).1], by rw [List.length_append]; exact hI7, by have := HN.out; rw [Hid, show l.length - (t ++ [true]).length = n by simp; omega]; exact HRR.out, (hbi.trans (hb6.mono hbi.size)).trans (hb7.mono (by have := hbi.size; have := hb6.size; omega))⟩
              case measure => rw [hpos.out, ip.out]; omega
            · rw [rkS_no hc] at hrr
              have HRR := Lib.hid hrr
              have hcz : ((rkA l t : Nat) : Int) ≤ (q : Int) := by omega
              have hcn : rkA l t ≤ q := by omega
              have hsb : (q : Int) - (rkA l t : Nat) = ((q - rkA l t : Nat) : Int) := by omega
              have hqq : q - rkA l t ≤ 4611686018427387904 := by omega
              generalize rkA l t = A at *
              generalize q - A = q2 at *
              have HN := Lib.hid hn
              clear hrr hn HR
              go_upto_region 7 with fail
              clear hnx
              generalize wr.iterAt I ⟨l.toArray⟩ (t.length + 1) = w5 at *
              have hIlt5 := block_lt i1
              go_wp2_with fail
              refine (HFC.out _).mono ?_
              rintro e w6 ⟨rfl, hb6⟩
              go_wp2_with fail
              refine (HTQ.out _).mono ?_
              rintro e w7 ⟨rfl, hb7⟩
              go_wp2_with fail
              have hI7 := (hb7.block _ (by have := hb6.size; omega)).trans ((hb6.block _ hIlt5).trans i1)
              have ip := Lib.hid (iterPos_at hI7)
              go_roundw
              case rel => exact ⟨t ++ [false], q2, by simp; omega, hqq, by go_num, by rw [(sg_text t).2], by rw [List.length_append]; exact hI7, by have := HN.out; rw [Hid, show l.length - (t ++ [false]).length = n by simp; omega]; exact HRR.out, (hbi.trans (hb6.mono hbi.size)).trans (hb7.mono (by have := hbi.size; have := hb6.size; omega))⟩
              case measure => rw [hpos.out, ip.out]; omega
          · have hte : t.length = l.length := by omega
            have hnx := fun ty => Lib.run_next_end_at (P := Try.prog) wr I ⟨l.toArray⟩ t.length ty hIr.out (by simp [ByteArray.size]; omega)
            have hrr := HR.out
            rw [hte, Nat.sub_self, rkS] at hrr
            have HRR := Lib.hid hrr
            clear hrr HR
            go_wp2_with fail
            go_ret2
            exact ⟨by rw [HT.out, ← HRR.out]; rfl, hb⟩
      · have e := hout (by omega)
        rw [sor_no e, e]
        have hkz2 : (k : Int) ≥ (T : Int) := by omega
        have hTk : T ≤ k := by omega
        have hkz3 : ¬ (k : Int) < (T : Int) := by omega
        clear hyes hout hg e
        go_enter Try.func17, Try.ntmps17
        go_wp2_with fail
        refine (HRW.out _).mono ?_
        rintro e w1 ⟨rfl, hb1⟩
        have hA := heap_alloc_new w1 (.cells (wvA fun _ => 0) 40)
        go_upto_region 2 with (first
          | (refine wpList_store_row rfl _ _ _ rfl (w1.heap.size) (wvA f) rfl rfl 40 _ hA (wvInfoA _) (by simp only [wvA_size]) (wvA_one _) ?_))
        have hB := setRow_heap (w1.alloc (.cells (wvA fun _ => 0) 40)) w1.heap.size _ (wvA f) _ _ hA
        have hb2 : Below w1.heap.size w1 ((w1.alloc (.cells (wvA fun _ => 0) 40)).setRow w1.heap.size (wvA f)) := below_setRow ((Below.refl _ _).alloc (Nat.le_refl _) _) (Nat.le_refl _) _
        clear hA
        generalize (w1.alloc (.cells (wvA fun _ => 0) 40)).setRow w1.heap.size (wvA f) = w2 at *
        go_wp2_with (first
          | (refine wpList_load_rowG (by kernel_rfl) _ _ rfl w1.heap.size rfl 40 (wvA f) (0, 0) _ hB Try.underlying40 rfl (wvInfoA _) ?_))
        refine (HTT.out _).mono ?_
        rintro e w3 ⟨rfl, hb3⟩
        have hb03 : Below w.heap.size w w3 := (hb1.trans (hb2.mono hb1.size)).trans (hb3.mono (by have := hb1.size; have := hb2.size; omega))
        go_wp2_with fail
        go_ret2
        exact ⟨rfl, hb03⟩

set_option maxRecDepth 100000 in
set_option maxHeartbeats 1600000 in
theorem iFirstStrip_any (l : List UInt8) (w : World) (hl : l.length ≤ 1048576) :
    Calls Try.prog 13 #[.string ⟨l.toArray⟩] w fun e w' => e = .returned (.tuple #[.string ⟨(sorV l 0).toArray⟩, .bool (sorB l 0)]) ∧ Below w.heap.size w w' := by
  have HR := Lib.hid fun w => iStripOfRank_any l 0 w hl
  generalize sorV l 0 = V at *
  generalize sorB l 0 = B at *
  go_enter Try.func13, Try.ntmps13
  go_wp2_with fail
  refine (HR.out _).mono ?_
  rintro e w1 ⟨rfl, hb1⟩
  go_wp2_with fail
  go_ret2
  exact ⟨rfl, hb1⟩

set_option maxRecDepth 100000 in
set_option maxHeartbeats 1600000 in
theorem iLastStrip_any (l : List UInt8) (w : World) (hl : l.length ≤ 1048576) :
    Calls Try.prog 15 #[.string ⟨l.toArray⟩] w fun e w' => e = .returned (.tuple #[.string ⟨(sorV l (((sumN 41 (cwT l) : Nat) : Int) - 1)).toArray⟩, .bool (sorB l (((sumN 41 (cwT l) : Nat) : Int) - 1))]) ∧ Below w.heap.size w w' := by
  have HRW := Lib.hid fun w => readWays_any l w hl
  have HTT := Lib.hid fun w => total_any (cwT l) w (cwT_total l)
  have hsr := fun c w => iStripOfRank_any l c w hl
  have hz := fun w => wvZero w
  have hT := cwT_total l
  obtain ⟨c, hc⟩ : ∃ c, c = ((sumN 41 (cwT l) : Nat) : Int) - 1 := ⟨_, rfl⟩
  have HR := Lib.hid fun w => hsr c w
  rw [← hc]
  generalize sumN 41 (cwT l) = T at *
  have hcw : IntKind.i64.wrap ((T : Int) - 1) = c := by rw [IntWalk.i64_in _ (by omega)]; omega
  have hcs : (T : Int) - 1 = c := hc.symm
  generalize sorV l c = V at *
  generalize sorB l c = B at *
  generalize stM l = ok at *
  generalize cwT l = f at *
  clear hsr hc
  go_enter Try.func15, Try.ntmps15
  go_wp2_with fail
  refine (HRW.out _).mono ?_
  rintro e w1 ⟨rfl, hb1⟩
  have hA := heap_alloc_new w1 (.cells (wvA fun _ => 0) 40)
  go_upto_region 2 with (first
    | (refine wpList_store_row rfl _ _ _ rfl (w1.heap.size) (wvA f) rfl rfl 40 _ hA (wvInfoA _) (by simp only [wvA_size]) (wvA_one _) ?_))
  have hB := setRow_heap (w1.alloc (.cells (wvA fun _ => 0) 40)) w1.heap.size _ (wvA f) _ _ hA
  have hb2 : Below w1.heap.size w1 ((w1.alloc (.cells (wvA fun _ => 0) 40)).setRow w1.heap.size (wvA f)) := below_setRow ((Below.refl _ _).alloc (Nat.le_refl _) _) (Nat.le_refl _) _
  clear hA
  generalize (w1.alloc (.cells (wvA fun _ => 0) 40)).setRow w1.heap.size (wvA f) = w2 at *
  go_wp2_with (first
    | (refine wpList_load_row rfl _ _ rfl w1.heap.size rfl 40 (wvA f) (0, 0) _ hB Try.underlying40 rfl (wvInfoA _) ?_))
  refine (HTT.out _).mono ?_
  rintro e w3 ⟨rfl, hb3⟩
  have hb03 : Below w.heap.size w w3 := (hb1.trans (hb2.mono hb1.size)).trans (hb3.mono (by have := hb1.size; have := hb2.size; omega))
  go_wp2_with fail
  refine (HR.out _).mono ?_
  rintro e w4 ⟨rfl, hb4⟩
  go_wp2_with fail
  go_ret2
  exact ⟨rfl, hb03.trans (hb4.mono hb03.size)⟩
end Go.Proofs.Ytemedmkealegcab
