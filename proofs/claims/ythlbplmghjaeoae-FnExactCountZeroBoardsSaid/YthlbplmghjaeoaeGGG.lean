/- GG, GH, GI, laid as one text. -/
import Derived.Test.YthlbplmghjaeoaeGGC
import Derived.Outline

/- Parts of the sorted boards: the comparison with a value. -/
namespace Go.Proofs.Ythlbplmghjaeoae
open Go.RowKit Go.Sort Go.Lib Go.Shelf

set_option maxRecDepth 100000 in
set_option maxHeartbeats 400000 in
theorem partCl_k (k : Nat) (zE : ∀ w, (Go.sizeOf 45).run Try.prog w = .ok k w) (hkk : ∀ z : LB, (encB z).length = k) (x : LB) (v : Int) (hv : -100000 ≤ v ∧ v ≤ 100000) (p F : Nat) (key : LB → Nat) (hk : ∀ z, key z ≤ 100000) (eg : ∀ args w, (callFunc F args).run Try.prog w = .ok (.enter F args) w)
    (hF : ∀ z w, Calls Try.prog F #[.agg (encB z).toArray] w fun e w' => e = .returned (.int .i64 (key z : Nat)) ∧ ∃ o, w' = w.alloc o) (w : World) (hc : w.cell? ⟨p, 0, none⟩ = some (.func (.func F) #[] #[])) :
    Calls Try.prog 92 #[.agg (encB x).toArray, .int .i64 v, .pointer (some ⟨p, 0, none⟩)] w fun e w' => e = .returned (.int .i64 ((key x : Int) - v)) ∧ RowKit.Below w.heap.size w w' := by
  have hkx := hk x
  have HF := Lib.hid hF
  have HC := Lib.hid hc
  have HKK := Lib.hid hkk
  obtain ⟨hv1, hv2⟩ := hv
  clear hc hF hk hkk
  go_enter Try.func92, Try.ntmps92
  go_upto_region 1 with fail
  have hlp : p < w.heap.size := by have := World.block_lt_of_cell? _ _ HC.out; simpa using this
  have hX : (w.alloc (.cells (encB x).toArray 45)).heap[w.heap.size]? = some (.cells (encB x).toArray 45 (0, 0)) := heap_alloc_new w _
  have hb1 : RowKit.Below w.heap.size w (w.alloc (.cells (encB x).toArray 45)) := (RowKit.Below.refl _ _).alloc (Nat.le_refl _) _
  have hP : (w.alloc (.cells (encB x).toArray 45)).cell? ⟨p, 0, none⟩ = some (.func (.func F) #[] #[]) := (hb1.cell (p := ⟨p, 0, none⟩) hlp).trans HC.out
  generalize w.alloc (.cells (encB x).toArray 45) = w2 at *
  have lx : Sem.run Try.prog (loadCellsFrom ⟨w.heap.size, 0, none⟩ 0 k #[]) w2 = .ok (encB x).toArray w2 :=
    run_loadCellsFrom_list _ _ _ _ k (HKK.out x) fun j v hv => by
      rw [show (Addr.add _ j : Addr) = _ from WideShapes.add_plain _ _ _]; exact range24 hX j v hv
  clear hX HC
  go_wp2_with (go_at_fn F; refine (HF.out _ _).mono ?_; rintro e w3 ⟨rfl, o, rfl⟩)
  go_ret
  exact ⟨rfl, hb1.alloc hb1.size _⟩
end Go.Proofs.Ythlbplmghjaeoae

/- Parts of the sorted boards: where a value begins. -/
namespace Go.Proofs.Ythlbplmghjaeoae
open Go.RowKit

theorem wpList_load_midG {P : Program} {ops : Array Oper} {rest : List Oper} {op : Oper} {a : Act} {w : World} {Q : Exit → Act → World → Prop} (hw : Region.wanted op (yielded ops a.tmps) = true) (ty : TypeId) (x : Operand) (ho : op.op = .load ty x)
    (b o : Nat) (hx : a.eval x = .pointer (some ⟨b, o, none⟩)) (cs : List Value) (d : TypeDesc) (hc : w.rangeAt b o cs)
    (hu : P.underlying ty = some d) (hd : d.isRow = true) (hi : (P.info? ty).map (·.size) = some cs.length)
    (h : wpList P ops Q rest (a.put op.dst (.agg cs.toArray)) w) : wpList P ops Q (op :: rest) a w :=
  wpList_step fun K hK => by simp only [hw, if_true]; exact wp_load_mid ty x ho b o hx cs d hc hu hd hi (hK _ _ h)
/-- How many of the sorted boards are below a value. -/
def blw (key : LB → Nat) (S : List LB) (v : Int) : Nat := S.countP fun x => decide ((key x : Int) < v)
theorem blw_at (key : LB → Nat) (S : List LB) (v : Int) (i : Nat) (hi : i ≤ S.length) (h1 : ∀ t (ht : t < S.length), t < i → (key S[t] : Int) < v) (h2 : ∀ t (ht : t < S.length), i ≤ t → v ≤ (key S[t] : Int)) : blw key S v = i := by
  unfold blw
  have e : S.countP (fun x => decide ((key x : Int) < v)) = (S.take i).countP (fun x => decide ((key x : Int) < v)) + (S.drop i).countP (fun x => decide ((key x : Int) < v)) := by
    rw [← List.countP_append, List.take_append_drop]
  have e1 : (S.take i).countP (fun x => decide ((key x : Int) < v)) = (S.take i).length := by
    refine List.countP_eq_length.2 fun a ha => ?_
    obtain ⟨t, ht, rfl⟩ := List.mem_iff_getElem.1 ha
    rw [List.length_take] at ht
    rw [List.getElem_take]
    exact decide_eq_true (h1 t (by omega) (by omega))
  have e2 : (S.drop i).countP (fun x => decide ((key x : Int) < v)) = 0 := by
    refine List.countP_eq_zero.2 fun a ha => ?_
    obtain ⟨t, ht, rfl⟩ := List.mem_iff_getElem.1 ha
    rw [List.length_drop] at ht
    rw [List.getElem_drop]
    have := h2 (i + t) (by omega) (by omega)
    simp; omega
  rw [e, e1, e2, List.length_take]
  omega
set_option maxRecDepth 100000 in
set_option maxHeartbeats 400000 in
theorem bsB_any (key : LB → Nat) (S : List LB) (v : Int) (fid : Nat) (cb : Array Value) (g cap : Nat) (w : World) (hL : S.length ≤ 4096) (hs : ∀ i j (hj : j < S.length) (hij : i < j), key (S[i]'(by omega)) ≤ key S[j])
    (hr : ∀ j (hj : j < S.length), w.rangeAt g (j * 24) (encB S[j])) (hk : ∀ z, key z ≤ 100000) (hv : -100000 ≤ v ∧ v ≤ 100000)
    (eg : ∀ args w, (callFunc fid args).run Try.prog w = .ok (.enter fid args) w)
    (hf : ∀ (x : LB) (W : World), Below w.heap.size w W → Calls Try.prog fid (#[.agg (encB x).toArray, .int .i64 v] ++ cb) W fun e w' => e = .returned (.int .i64 ((key x : Int) - v)) ∧ Below W.heap.size W w') :
    Calls Try.prog 93 #[.slice (some ⟨g, 0, none⟩) S.length cap, .int .i64 v, .func (.func fid) #[] cb] w fun e w' => ∃ b, e = .returned (.tuple #[.int .i64 (blw key S v : Nat), .bool b]) ∧ Below w.heap.size w w' := by
  have HF := Lib.hid hf
  have HR := Lib.hid hr
  have HS := Lib.hid hs
  have HK := Lib.hid hk
  obtain ⟨hv1, hv2⟩ := hv
  clear hf hr hs hk
  go_enter Try.func93, Try.ntmps93
  go_wp2_with fail
  go_loopw [9, 10] (fun vi vj wr => ∃ i j : Nat, vi = .int .i64 i ∧ vj = .int .i64 j ∧ i ≤ j ∧ j ≤ S.length ∧ Hid (∀ t (ht : t < S.length), t < i → (key S[t] : Int) < v) ∧ Hid (∀ t (ht : t < S.length), j ≤ t → v ≤ (key S[t] : Int)) ∧ Below w.heap.size w wr) (fun vi vj _ => (intOf vj).toNat - (intOf vi).toNat)
  case atStart => exact ⟨0, S.length, rfl, rfl, Nat.zero_le _, Nat.le_refl _, fun t _ h => by omega, fun t ht h => by omega, Below.refl _ _⟩
  case round =>
    obtain ⟨i, j, rfl, rfl, hij, hjl, HI, HJ, hb⟩ := hrel
    by_cases hlt : i < j
    · go_upto_region 5 with fail
      obtain ⟨h, hh⟩ : ∃ h : Nat, h = (i + j) / 2 := ⟨_, rfl⟩
      have hz : ((i : Int) + (j : Int)) / 2 = (h : Int) := by omega
      try rw [hz]
      have h1 : i ≤ h := by omega
      have h2 : h < j := by omega
      have h3 : h < S.length := by omega
      clear hz hh
      have hrj := range_later (HR.out h h3) hb
      have hc := HF.out S[h] wr hb
      have hkh := HK.out S[h]
      generalize hxx : S[h] = x at *
      have HXX := Lib.hid hxx
      have HC := Lib.hid hc
      clear hxx hc
      by_cases hlv : (key x : Int) < v
      · have hlv2 : (key x : Int) - v < 0 := by omega
        go_wp2_with (first
          | (refine wpList_load_mid rfl 45 _ rfl g (h * 24) rfl (encB x) _ hrj Try.underlying45 rfl (inf67.trans (by rw [encB_len])) ?_)
          | (go_at_fn fid; refine HC.out.mono ?_; rintro e w3 ⟨rfl, hb3⟩))
        go_roundw
        case rel =>
          refine ⟨h + 1, j, by go_num, rfl, by omega, hjl, fun t ht hti => ?_, HJ, hb.trans (hb3.mono hb.size)⟩
          rcases Nat.lt_or_ge t h with q | q
          · have h5 := HS.out t h h3 q
            rw [HXX.out] at h5
            omega
          · have : t = h := by omega
            subst this
            rw [HXX.out]; exact hlv
        case measure => simp [intOf]; omega
      · have hlv2 : ¬ ((key x : Int) - v < 0) := by omega
        go_wp2_with (first
          | (refine wpList_load_mid rfl 45 _ rfl g (h * 24) rfl (encB x) _ hrj Try.underlying45 rfl (inf67.trans (by rw [encB_len])) ?_)
          | (go_at_fn fid; refine HC.out.mono ?_; rintro e w3 ⟨rfl, hb3⟩))
        go_roundw
        case rel =>
          refine ⟨i, h, rfl, rfl, h1, by omega, HI, fun t ht hti => ?_, hb.trans (hb3.mono hb.size)⟩
          rcases Nat.lt_or_ge h t with q | q
          · have h5 := HS.out h t ht q
            rw [HXX.out] at h5
            omega
          · have : t = h := by omega
            subst this
            rw [HXX.out]; omega
        case measure => simp [intOf]; omega
    · obtain rfl : i = j := by omega
      have HB : Hid (blw key S v = i) := blw_at key S v i hjl HI.out HJ.out
      by_cases hin : i < S.length
      · have hrj := range_later (HR.out i hin) hb
        have hc := HF.out S[i] wr hb
        have hkh := HK.out S[i]
        generalize S[i] = x at *
        have HC := Lib.hid hc
        clear hc
        have hkx : (0 : Int) ≤ (key x : Int) := by omega
        go_wp2_with (first
          | (refine wpList_load_midG (by kernel_rfl) 45 _ rfl g (i * 24) rfl (encB x) _ hrj Try.underlying45 rfl (inf67.trans (by rw [encB_len])) ?_)
          | (go_at_fn fid; refine HC.out.mono ?_; rintro e w3 ⟨rfl, hb3⟩))
        go_ret2
        exact ⟨_, by rw [HB.out]; rfl, hb.trans (hb3.mono hb.size)⟩
      · go_wp2_with fail
        go_ret2
        exact ⟨_, by rw [HB.out]; rfl, hb⟩
end Go.Proofs.Ythlbplmghjaeoae

/- Parts of the sorted boards. -/
namespace Go.Proofs.Ythlbplmghjaeoae
open Go.RowKit

theorem blw_le (key : LB → Nat) (S : List LB) (v : Int) : blw key S v ≤ S.length := List.countP_le_length
theorem blw_mono (key : LB → Nat) (S : List LB) (v : Int) : blw key S v ≤ blw key S (v + 1) := by
  refine List.countP_mono_left fun x _ h => ?_
  have := of_decide_eq_true h
  exact decide_eq_true (by omega)
set_option maxRecDepth 100000 in
set_option maxHeartbeats 400000 in
theorem partWith_any (F : Nat) (key : LB → Nat) (S : List LB) (v : Int) (g cap : Nat) (w : World) (hL : S.length ≤ 4096) (hcap : S.length ≤ cap) (hcm : cap ≤ 9223372036854775807) (hs : ∀ i j (hj : j < S.length) (hij : i < j), key (S[i]'(by omega)) ≤ key S[j])
    (hr : ∀ j (hj : j < S.length), w.rangeAt g (j * 24) (encB S[j])) (hk : ∀ z, key z ≤ 99999) (hv : -1 ≤ v ∧ v ≤ 99999)
    (eg : ∀ args w, (callFunc F args).run Try.prog w = .ok (.enter F args) w)
    (hF : ∀ z w, Calls Try.prog F #[.agg (encB z).toArray] w fun e w' => e = .returned (.int .i64 (key z : Nat)) ∧ ∃ o, w' = w.alloc o) :
    Calls Try.prog 78 #[.slice (some ⟨g, 0, none⟩) S.length cap, .func (.func F) #[] #[], .int .i64 v] w fun e w' => ∃ o, e = .returned (.slice (some ⟨g, o, none⟩) (blw key S (v + 1) - blw key S v) (blw key S (v + 1) - blw key S v)) ∧ (0 < blw key S (v + 1) - blw key S v → o = blw key S v * 24) ∧ Below w.heap.size w w' := by
  have eC : ∀ args w, (callFunc 92 args).run Try.prog w = .ok (.enter 92 args) w := enters_of Try.func92 (by kernel_rfl) rfl
  have hbs := fun (u : Int) (hu : -100000 ≤ u ∧ u ≤ 100000) (p : Nat) (W : World) (hc : W.cell? ⟨p, 0, none⟩ = some (.func (.func F) #[] #[])) (hr : ∀ j (hj : j < S.length), W.rangeAt g (j * 24) (encB S[j])) =>
    bsB_any key S u 92 #[.pointer (some ⟨p, 0, none⟩)] g cap W hL hs hr (fun z => by have := hk z; omega) hu eC (fun x W' hb => partCl_k 24 lbSize encB_len x u hu p F key (fun z => by have := hk z; omega) eg hF W' ((hb.cell (p := ⟨p, 0, none⟩) (by have := World.block_lt_of_cell? _ _ hc; simpa using this)).trans hc))
  have HBS := Lib.hid hbs
  have HR := Lib.hid hr
  obtain ⟨hv1, hv2⟩ := hv
  have m1 := blw_mono key S v
  have m2 := blw_le key S (v + 1)
  clear hbs hs hr hk eg hF eC
  go_enter Try.func78, Try.ntmps78
  have hP : (w.alloc (.cells #[.func (.func F) #[] #[]] 83)).cell? ⟨w.heap.size, 0, none⟩ = some (.func (.func F) #[] #[]) := by simp
  have hb1 : Below w.heap.size w (w.alloc (.cells #[.func (.func F) #[] #[]] 83)) := (Below.refl _ _).alloc (Nat.le_refl _) _
  have hs1 : w.heap.size < (w.alloc (.cells #[.func (.func F) #[] #[]] 83)).heap.size := by simp
  go_wp2_with fail
  generalize w.alloc (.cells #[.func (.func F) #[] #[]] 83) = w1 at *
  refine (HBS.out v ⟨by omega, by omega⟩ w.heap.size w1 hP (fun j hj => range_later (HR.out j hj) hb1)).mono ?_
  rintro e w2 ⟨tb, rfl, hb2⟩
  have hP2 := (hb2.cell (p := ⟨w.heap.size, 0, none⟩) hs1).trans hP
  have hb02 := hb1.trans (hb2.mono hb1.size)
  have HP2 := Lib.hid hP2
  clear hP hP2 hb2 hb1
  go_wp2_with fail
  refine (HBS.out (v + 1) ⟨by omega, by omega⟩ w.heap.size w2 HP2.out (fun j hj => range_later (HR.out j hj) hb02)).mono ?_
  rintro e w3 ⟨tb2, rfl, hb3⟩
  have hb03 := hb02.trans (hb3.mono hb02.size)
  clear hb3 hb02 HBS HP2
  generalize hfr : blw key S v = fr at *
  generalize hbh : blw key S (v + 1) = bh at *
  have HFR := Lib.hid hfr
  have HBH := Lib.hid hbh
  clear hfr hbh
  go_wp2_with fail
  case inl =>
    go_ret
    have e0 : bh - fr = 0 := by omega
    exact ⟨0, by rw [HFR.out, HBH.out, e0]; rfl, by rw [HFR.out, HBH.out]; omega, hb03⟩
  case inr =>
    go_ret
    exact ⟨fr * 24, by rw [HFR.out, HBH.out]; rfl, by rw [HFR.out]; intro _; rfl, hb03⟩
end Go.Proofs.Ythlbplmghjaeoae
