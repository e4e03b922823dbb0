/- What all boards agree on, by the program. -/
import Derived.Test.YthlbplmghjaeoaaB5
import Derived.Test.YthlbplmghjaeoaaAL
import Derived.Test.YthlbplmghjaeoaaAK
import Derived.Test.YthlbplmghjaeoaaKO
namespace Go.Proofs.Ythlbplmghjaeoaa
open Go.RowKit

theorem BoxB.cell {w : World} {b i : Nat} {c : UInt8} {y z : LB} (h : BoxB w b y) (hi : i < 24) (hz : z.1 = y.1.set i c) : BoxB (w.setCell ⟨b, i, none⟩ (.int .u8 (c.toNat : Int))) b z := by
  have hs : ∀ j : Nat, (w.setCell ⟨b, i, none⟩ (.int .u8 (c.toNat : Int))) = w.setCells b i [.int .u8 (c.toNat : Int)] := fun _ => rfl
  refine ⟨fun j v hv => ?_, by rw [hs 0]; exact World.there_setCells h.2 b i _⟩
  have hj : j < 24 := by
    have := (List.getElem?_eq_some_iff.1 hv).1
    rwa [encB_len] at this
  rw [encB_get z j hj] at hv
  obtain rfl := Option.some.inj hv
  rw [Nat.zero_add]
  have hzj : z.at j = if i = j then c else y.at j := by
    unfold LB.at
    rw [hz]
    simp only [List.getD, List.getElem?_set]
    have hl : y.1.length = 24 := y.2
    by_cases e : i = j
    · subst e; simp [hl, hj]
    · simp [e]
  by_cases e : i = j
  · subst e
    have h0 := h.1 i _ (encB_get y i hi)
    rw [Nat.zero_add] at h0
    rw [World.cell?_setCell_same _ _ _ h0, hzj, if_pos rfl]
  · rw [World.cell?_setCell_other _ _ _ _ (by intro q; injection q; omega), hzj, if_neg e]
    have h0 := h.1 j _ (encB_get y j hj)
    rwa [Nat.zero_add] at h0
theorem BoxB.get {w : World} {b : Nat} {y : LB} (h : BoxB w b y) (i : Nat) (hi : i < 24) : w.cell? ⟨b, i, none⟩ = some (.int .u8 ((y.at i).toNat : Int)) ∧ w.frozen? ⟨b, i, none⟩ = false := by
  have h0 := h.1 i _ (encB_get y i hi)
  have h1 := h.2 i hi
  rw [Nat.zero_add] at h0 h1
  exact ⟨h0, h1.2⟩
theorem box_made (w : World) (x : LB) (t : TypeId) : BoxB ((w.alloc (.cells #[.int .u8 0, .int .u8 0, .int .u8 0, .int .u8 0, .int .u8 0, .int .u8 0, .int .u8 0, .int .u8 0, .int .u8 0, .int .u8 0, .int .u8 0, .int .u8 0, .int .u8 0, .int .u8 0, .int .u8 0, .int .u8 0, .int .u8 0, .int .u8 0, .int .u8 0, .int .u8 0, .int .u8 0, .int .u8 0, .int .u8 0, .int .u8 0] t)).setCells w.heap.size 0 (encB x)) w.heap.size x ∧ Below w.heap.size w ((w.alloc (.cells #[.int .u8 0, .int .u8 0, .int .u8 0, .int .u8 0, .int .u8 0, .int .u8 0, .int .u8 0, .int .u8 0, .int .u8 0, .int .u8 0, .int .u8 0, .int .u8 0, .int .u8 0, .int .u8 0, .int .u8 0, .int .u8 0, .int .u8 0, .int .u8 0, .int .u8 0, .int .u8 0, .int .u8 0, .int .u8 0, .int .u8 0, .int .u8 0] t)).setCells w.heap.size 0 (encB x)) := by
  have hA : (w.alloc (.cells zer t)).heap[w.heap.size]? = some (.cells zer t (0, 0)) := heap_alloc_new w _
  have hth : (w.alloc (.cells zer t)).there w.heap.size 0 24 := there24 hA rfl
  exact ⟨⟨World.rangeAt_setCells_same _ _ 0 (encB x) (by rw [encB_len]; exact hth), World.there_setCells hth w.heap.size 0 (encB x)⟩, below_setCells (encB x) 0 ((Below.refl w.heap.size w).alloc (Nat.le_refl _) _) (Nat.le_refl _)⟩
set_option maxRecDepth 100000 in
set_option maxHeartbeats 1600000 in
theorem sureSigns_any (x : LB) (r : List LB) (v : Value) (B : Nat) (w : World) (hO : OwnsB w B v (x :: r)) (hl : r.length ≤ 1000000) :
    Calls Try.prog 27 #[v] w fun e w' => e = .returned (.agg (encB (x.sure (x :: r))).toArray) ∧ Below w.heap.size w w' := by
  obtain ⟨g, cb, cur, hv, hg1, hg2, hgb, hgc, hgs, hgr⟩ := hO.open (by simp)
  subst hv
  have hr0 := hgr 0 (by simp)
  simp only [List.length_cons] at hgc hgr ⊢
  simp only [List.getElem_cons_zero, Nat.zero_mul] at hr0
  have hlt : (0 : Int) < (r.length : Int) + 1 := by omega
  have hb0 : Below w.heap.size w (w.alloc (.cells zer 58)) := (Below.refl _ _).alloc (Nat.le_refl _) _
  have hR0 := heap_alloc_new w (.cells zer 58)
  have hr1 := range_later hr0 hb0
  go_enter Try.func27, Try.ntmps27
  go_upto_region 1 with fail
  have hZ : (w.alloc (.cells #[.int .u8 0, .int .u8 0, .int .u8 0, .int .u8 0, .int .u8 0, .int .u8 0, .int .u8 0, .int .u8 0, .int .u8 0, .int .u8 0, .int .u8 0, .int .u8 0, .int .u8 0, .int .u8 0, .int .u8 0, .int .u8 0, .int .u8 0, .int .u8 0, .int .u8 0, .int .u8 0, .int .u8 0, .int .u8 0, .int .u8 0, .int .u8 0] 58)) = w.alloc (.cells zer 58) := rfl
  rw [hZ]
  clear hZ
  generalize hw0 : w.alloc (.cells zer 58) = w0 at *
  have hsz : w0.heap.size = w.heap.size + 1 := by rw [← hw0]; simp
  clear hw0
  refine wp_region_lit ?_
  go_step
  go_step
  go_step
  go_step
  go_step
  go_step
  refine wpList_load_mid rfl 58 _ rfl g 0 rfl (encB x) _ hr1 Try.underlying58 rfl (inf67.trans (by rw [encB_len])) ?_
  have hxl := encB_len x
  go_step
  go_step
  go_step
  have hbm := box_made w0 x 58
  have hA5 := heap_alloc_new w0 (.cells zer 58)
  rw [hsz] at hbm hA5
  refine wpList_store_mid rfl 58 _ _ rfl (w.heap.size + 1) 0 (encB x).toArray rfl rfl (by rw [encB_size]; exact there24 hA5 rfl) (inf67.trans (by rw [encB_size])) (all_oneCell_toArray (encB_one x)) ?_
  refine wpList_nil ?_
  clear hA5
  generalize (w0.alloc (.cells #[.int .u8 0, .int .u8 0, .int .u8 0, .int .u8 0, .int .u8 0, .int .u8 0, .int .u8 0, .int .u8 0, .int .u8 0, .int .u8 0, .int .u8 0, .int .u8 0, .int .u8 0, .int .u8 0, .int .u8 0, .int .u8 0, .int .u8 0, .int .u8 0, .int .u8 0, .int .u8 0, .int .u8 0, .int .u8 0, .int .u8 0, .int .u8 0] 58)).setCells (w.heap.size + 1) 0 (encB x) = w1 at *
  obtain ⟨hS1, hb1⟩ := hbm
  have hR1 : Hid (w1.heap[w.heap.size]? = some (.cells zer 58 (0, 0))) := (hb1.block _ (by omega)).trans hR0
  have hB1 := hb0.trans (hb1.mono (by omega))
  clear hb0 hb1 hR0 hr1 hr0
  have hgt : g < w.heap.size := hg2
  generalize hSS : w.heap.size + 1 = SS at *
  go_wp2_with fail
  go_loopw [13] (fun i wr => ∃ j : Nat, j ≤ r.length + 1 ∧ i = .int .i64 j ∧ BoxB wr SS (x.sure ((x :: r).take j)) ∧ Hid (wr.heap[w.heap.size]? = some (.cells zer 58 (0, 0))) ∧ Below w.heap.size w wr) (fun i _ => r.length + 1 - (intOf i).toNat)
  case atStart => exact ⟨0, Nat.zero_le _, rfl, hS1, hR1, hB1⟩
  case round =>
    clear hS1 hR1 hB1 hsz
    obtain ⟨j, hj, rfl, hSr, hRr, hbr⟩ := hrel
    by_cases hjl : j < r.length + 1
    · have hrj := range_later (hgr j hjl) hbr
      have hNX : Hid (x.sure ((x :: r).take (j + 1)) = (x.sure ((x :: r).take j)).mg ((x :: r)[j]'(by simpa using hjl))) := by
        rw [Hid, List.take_succ_eq_append_getElem (by simpa using hjl), LB.sure, List.foldl_append]; rfl
      have hji : (j : Int) < (r.length : Int) + 1 := by omega
      generalize (x :: r)[j]'(by simpa using hjl) = y at *
      generalize x.sure ((x :: r).take j) = s at *
      go_upto_region 4 with fail
      refine wp_region_lit ?_
      go_step
      go_step
      go_step
      refine wpList_load_mid rfl 58 _ rfl g (j * 24) rfl (encB y) _ hrj Try.underlying58 rfl (inf67.trans (by rw [encB_len])) ?_
      have hyl := encB_len y
      go_step
      go_step
      go_step
      have hbm := box_made wr y 58
      have hA5 := heap_alloc_new wr (.cells zer 58)
      refine wpList_store_mid rfl 58 _ _ rfl wr.heap.size 0 (encB y).toArray rfl rfl (by rw [encB_size]; exact there24 hA5 rfl) (inf67.trans (by rw [encB_size])) (all_oneCell_toArray (encB_one y)) ?_
      refine wpList_nil ?_
      clear hA5 hrj
      generalize (wr.alloc (.cells #[.int .u8 0, .int .u8 0, .int .u8 0, .int .u8 0, .int .u8 0, .int .u8 0, .int .u8 0, .int .u8 0, .int .u8 0, .int .u8 0, .int .u8 0, .int .u8 0, .int .u8 0, .int .u8 0, .int .u8 0, .int .u8 0, .int .u8 0, .int .u8 0, .int .u8 0, .int .u8 0, .int .u8 0, .int .u8 0, .int .u8 0, .int .u8 0] 58)).setCells wr.heap.size 0 (encB y) = w5 at *
      obtain ⟨hY5, hb5⟩ := hbm
      have hS5 := hSr.later hb5
      have hR5 : Hid (w5.heap[w.heap.size]? = some (.cells zer 58 (0, 0))) := (hb5.block _ (block_lt hRr.out)).trans hRr.out
      have hB5 := hbr.trans (hb5.mono hbr.size)
      have hne : wr.heap.size ≠ SS := by have := hSr.lt; omega
      clear hb5 hSr hRr hbr
      generalize wr.heap.size = BX at *
      go_upto_region 5 with fail
      refine wp_region_lit ?_
      go_step
      go_step
      go_step
      have hr12 : w5.rangeAt BX 0 (byts (y.1.take 12)) := fun q v hv => by
        have hq : q < 12 := by
          have := (List.getElem?_eq_some_iff.1 hv).1
          simp [byts, y.2] at this
          omega
        refine hY5.1 q v ?_
        rw [← hv]
        simp [encB, byts, hq]
      refine wpList_load_mid rfl 56 _ rfl BX 0 rfl (byts (y.1.take 12)) _ hr12 Try.underlying56 rfl (by rw [show (byts (y.1.take 12)).length = 12 by simp [byts, y.2]]; kernel_rfl) ?_
      have hA : ∀ i : Nat, i < 12 → (byts (y.1.take 12)).toArray[i]? = some (.int .u8 ((y.at i).toNat : Int)) := sgA_get y
      have HA := Lib.hid hA
      clear hA hr12
      generalize (byts (y.1.take 12)).toArray = arr at *
      go_wp2_with fail
      go_loopw [19] (fun i wi => ∃ k : Nat, k ≤ 12 ∧ i = .int .i64 k ∧ BoxB wi SS (s.mgK y k) ∧ Hid (wi.heap[w.heap.size]? = some (.cells zer 58 (0, 0))) ∧ Below w.heap.size w wi) (fun i _ => 12 - (intOf i).toNat)
      case atStart => exact ⟨0, Nat.zero_le _, rfl, by rw [LB.mgK_zero]; exact hS5, hR5, hB5⟩
      case round =>
        clear hS5 hR5 hB5 hY5
        obtain ⟨k, hk, rfl, hSi, hRi, hbi⟩ := hrel
        by_cases hkl : k < 12
        · have ha := idx12 arr k _ hkl (HA.out k hkl)
          obtain ⟨hc, hf⟩ := hSi.get k (by omega)
          rw [LB.mgK_at s y k k (by omega), if_neg (by omega)] at hc
          have hkn : (0 : Int) ≤ (k : Int) ∧ (k : Int) < 12 := by omega
          cases d : ((y.at k).toNat : Int) == ((s.at k).toNat : Int) with
          | true =>
            have e : y.at k = s.at k := UInt8.toNat_inj.1 (by have := beq_iff_eq.1 d; omega)
            have HS : Hid (s.mgK y (k + 1) = s.mgK y k) := LB.mgK_same s y k e
            go_wp2_with fail
            go_roundw
            case rel => exact ⟨k + 1, by omega, by go_num, by rw [HS.out]; exact hSi, hRi, hbi⟩
            case measure => simp [intOf]; omega
          | false =>
            have e : ¬ y.at k = s.at k := fun q => by rw [q] at d; simp at d
            have hz : (s.mgK y (k + 1)).1 = (s.mgK y k).1.set k 63 := by rw [LB.mgK_succ, mgS, if_neg e]
            have hS' : BoxB (wr.setCell ⟨SS, k, none⟩ (.int .u8 63)) SS (s.mgK y (k + 1)) := hSi.cell (c := 63) (by omega) hz
            have hR' : Hid ((wr.setCell ⟨SS, k, none⟩ (.int .u8 63)).heap[w.heap.size]? = some (.cells zer 58 (0, 0))) := by rw [Hid, away_setK (by omega)]; exact hRi.out
            have hb' : Below w.heap.size w (wr.setCell ⟨SS, k, none⟩ (.int .u8 63)) := hbi.trans ((Below.set k _).mono (by omega))
            clear hz e
            go_wp2_with fail
            go_roundw
            case rel => exact ⟨k + 1, by omega, by go_num, hS', hR', hb'⟩
            case measure => simp [intOf]; omega
        · obtain rfl : k = 12 := by omega
          go_wp2_with fail
          go_roundw
          case rel => exact ⟨j + 1, by omega, by go_num, by rw [hNX.out]; exact hSi, hRi, hbi⟩
          case measure => simp [intOf]; omega
    · obtain rfl : j = r.length + 1 := by omega
      have hT : (x :: r).take (r.length + 1) = x :: r := List.take_length (l := x :: r)
      rw [hT] at hSr
      go_upto_region 12 with fail
      refine wp_region_lit ?_
      refine wpList_load_mid rfl 58 _ rfl SS 0 rfl (encB (x.sure (x :: r))) _ hSr.1 Try.underlying58 rfl (inf67.trans (by rw [encB_len])) ?_
      refine wpList_store_mid rfl 58 _ _ rfl w.heap.size 0 (encB (x.sure (x :: r))).toArray rfl rfl (by rw [encB_size]; exact there24 hRr.out rfl) (inf67.trans (by rw [encB_size])) (all_oneCell_toArray (encB_one _)) ?_
      refine wpList_nil ?_
      have hR2 := World.rangeAt_setCells_same wr w.heap.size 0 (encB (x.sure (x :: r))) (by rw [encB_len]; exact there24 hRr.out rfl)
      have hb2 := below_setCells (g := w.heap.size) (encB (x.sure (x :: r))) 0 hbr (Nat.le_refl _)
      go_wp2_with fail
      refine bodyPost_ret (v := .agg (encB (x.sure (x :: r))).toArray) (results_cell rfl rfl (run_loadVar_mid _ _ _ 58 (encB (x.sure (x :: r))) _ hR2 Try.underlying58 rfl (inf67.trans (by rw [encB_len])))) rfl ?_
      exact ⟨rfl, hb2⟩
end Go.Proofs.Ythlbplmghjaeoaa
