/- How many boards have each list of numbers: by the program. -/
import Derived.Test.YthlbplmghjaeoaeKE
import Derived.Test.YthlbplmghjaeoaeKQ
import Derived.Test.YthlbplmghjaeoaeMD
import Derived.Outline
namespace Go.Proofs.Ythlbplmghjaeoae
open Go.RowKit

/-- The numbers of the boards of a list. -/
def numsL (L : List LB) : List (List UInt8) := L.map fun x => x.1.drop 12
theorem numsL_snoc (L : List LB) (k : Nat) (h : k < L.length) : numsL (L.take (k + 1)) = numsL (L.take k) ++ [L[k].1.drop 12] := by
  rw [numsL, List.take_succ_eq_append_getElem h, List.map_append]; rfl
/-- Each once, in the order in which they come. -/
def ddp {α : Type} [DecidableEq α] (l : List α) : List α := l.foldl (fun a x => if x ∈ a then a else a ++ [x]) []
theorem ddp_snoc {α : Type} [DecidableEq α] (l : List α) (y : α) : ddp (l ++ [y]) = if y ∈ ddp l then ddp l else ddp l ++ [y] := by
  unfold ddp
  rw [List.foldl_append]
  rfl
theorem ddp_go {α : Type} [DecidableEq α] (x : α) : ∀ (l a : List α), x ∈ l.foldl (fun a x => if x ∈ a then a else a ++ [x]) a ↔ x ∈ a ∨ x ∈ l
  | [], a => by simp
  | y :: l, a => by
    rw [List.foldl_cons, ddp_go x l, List.mem_cons]
    by_cases h : y ∈ a
    · rw [if_pos h]
      exact ⟨fun q => q.elim .inl fun e => .inr (.inr e), fun q => q.elim .inl fun e => e.elim (fun e => .inl (e ▸ h)) .inr⟩
    · rw [if_neg h, List.mem_append, List.mem_singleton, or_assoc]
theorem ddp_mem {α : Type} [DecidableEq α] (x : α) (l : List α) : x ∈ ddp l ↔ x ∈ l := by
  rw [ddp, ddp_go]; simp
theorem ddp_le {α : Type} [DecidableEq α] : ∀ (l a : List α), (l.foldl (fun a x => if x ∈ a then a else a ++ [x]) a).length ≤ a.length + l.length
  | [], a => by simp
  | y :: l, a => by
    have h := ddp_le l (if y ∈ a then a else a ++ [y])
    rw [List.foldl_cons, List.length_cons]
    by_cases q : y ∈ a
    · rw [if_pos q] at h ⊢; omega
    · rw [if_neg q] at h ⊢; rw [List.length_append, List.length_singleton] at h; omega
theorem ddp_length {α : Type} [DecidableEq α] (l : List α) : (ddp l).length ≤ l.length := by
  have := ddp_le l []
  simpa [ddp] using this
/-- How often each is there. -/
def cntF (l : List (List UInt8)) (x : List UInt8) : Option Value := if x ∈ l then some (.int .i64 (l.count x : Nat)) else none
theorem cntF_look (l : List (List UInt8)) (x : List UInt8) : (cntF l x).getD (.int .i64 0) = .int .i64 (l.count x : Nat) := by
  unfold cntF
  by_cases h : x ∈ l
  · rw [if_pos h]; rfl
  · rw [if_neg h, List.count_eq_zero.2 h]; rfl
theorem cntF_snoc (l : List (List UInt8)) (y : List UInt8) : putF (cntF l) y (.int .i64 ((l.count y + 1 : Nat) : Int)) = cntF (l ++ [y]) := by
  funext x
  unfold putF cntF
  by_cases h : x = y
  · subst h
    rw [if_pos rfl, if_pos (by simp), List.count_append]
    simp
  · rw [if_neg h, List.count_append]
    have h2 : List.count x [y] = 0 := List.count_eq_zero.2 (by simpa using h)
    rw [h2]
    by_cases q : x ∈ l
    · rw [if_pos q, if_pos (List.mem_append_left _ q)]; rfl
    · rw [if_neg q, if_neg (by simp [q, h])]
theorem ddp_cnt (l : List (List UInt8)) (y : List UInt8) : (if (cntF l y).isSome then (ddp l).length else (ddp l).length + 1) = (ddp (l ++ [y])).length := by
  rw [ddp_snoc]
  unfold cntF
  by_cases h : y ∈ l
  · rw [if_pos h, if_pos ((ddp_mem y l).2 h)]; rfl
  · rw [if_neg h, if_neg (fun q => h ((ddp_mem y l).1 q)), List.length_append]; rfl

theorem zeroInt (w : World) : (zeroValue 3).run Try.prog w = .ok (.int .i64 0) w := by kernel_rfl
set_option maxRecDepth 100000 in
set_option maxHeartbeats 1000000 in
theorem countByNumbers_of (W H : Int) (L : List LB) (hL : L.length ≤ 4096) (hlb : ∀ w, Calls Try.prog 66 #[.int .i64 W, .int .i64 H] w fun e w' => ∃ v, e = .returned v ∧ OwnsB w' w.heap.size v L ∧ Below w.heap.size w w') (w : World) :
    Calls Try.prog 44 #[.int .i64 W, .int .i64 H] w fun e w' => ∃ b, e = .returned (.map (some b)) ∧ VMS keyK w' b (ddp (numsL L)).length (cntF (numsL L)) ∧ Below w.heap.size w w' := by
  have hmm := @run_makeMap Try.prog
  have HLB := Lib.hid hlb
  clear hlb
  go_enter Try.func44, Try.ntmps44
  have hMm := VMS.made keyK w
  have hbm : Below w.heap.size w (w.alloc (.map #[] 0)) := (Below.refl _ _).alloc (Nat.le_refl _) _
  have hsm : w.heap.size < (w.alloc (.map #[] 0)).heap.size := by simp
  go_wp2_with fail
  generalize w.alloc (.map #[] 0) = w1 at *
  refine (HLB.out _).mono ?_
  rintro e w2 ⟨v, rfl, hO, hb2⟩
  obtain ⟨ab, capb, rfl⟩ := hO.shape
  have hM2 := hMm.later keyK hb2
  have hb02 := hbm.trans (hb2.mono hbm.size)
  clear hMm hbm hb2
  go_wp2_with fail
  go_loopw [13] (fun i wr => ∃ j : Nat, j ≤ L.length ∧ i = .int .i64 j ∧ Hid (VMS keyK wr w.heap.size (ddp (numsL (L.take j))).length (cntF (numsL (L.take j)))) ∧ OwnsB wr w1.heap.size (.slice ab L.length capb) L ∧ Below w.heap.size w wr) (fun i _ => L.length - (intOf i).toNat)
  case atStart => exact ⟨0, Nat.zero_le _, rfl, hM2, hO, hb02⟩
  case round =>
    clear hM2 hO hb02
    obtain ⟨j, hj, rfl, hM, hO, hb⟩ := hrel
    by_cases hjl : j < L.length
    · obtain ⟨g, cb, cur, hv, hg1, hg2, hgb, hgc, hgs, hgr⟩ := hO.open (by omega)
      obtain ⟨rfl, _, rfl⟩ : ab = some ⟨g, 0, none⟩ ∧ L.length = L.length ∧ capb = cb := by simpa using hv
      have hrj := hgr j hjl
      have HS := Lib.hid (numsL_snoc L j hjl)
      have hlk : (numsL (L.take j)).length ≤ 4096 := by simp [numsL]; omega
      have HLK := Lib.hid hlk
      generalize hxx : L[j] = x at *
      clear hxx hlk hgr hgs hgc hgb hv
      go_upto_region 4 with fail
      refine wp_region_lit ?_
      go_step
      go_step
      go_step
      refine wpList_load_mid rfl 45 _ rfl g (j * 24) rfl (encB x) _ hrj Try.underlying45 rfl (inf67.trans (by rw [encB_len])) ?_
      have hxl := encB_len x
      go_step
      go_step
      go_step
      have hA5 : (wr.alloc (.cells #[.int .u8 0, .int .u8 0, .int .u8 0, .int .u8 0, .int .u8 0, .int .u8 0, .int .u8 0, .int .u8 0, .int .u8 0, .int .u8 0, .int .u8 0, .int .u8 0, .int .u8 0, .int .u8 0, .int .u8 0, .int .u8 0, .int .u8 0, .int .u8 0, .int .u8 0, .int .u8 0, .int .u8 0, .int .u8 0, .int .u8 0, .int .u8 0] 45)).heap[wr.heap.size]? = some (.cells #[.int .u8 0, .int .u8 0, .int .u8 0, .int .u8 0, .int .u8 0, .int .u8 0, .int .u8 0, .int .u8 0, .int .u8 0, .int .u8 0, .int .u8 0, .int .u8 0, .int .u8 0, .int .u8 0, .int .u8 0, .int .u8 0, .int .u8 0, .int .u8 0, .int .u8 0, .int .u8 0, .int .u8 0, .int .u8 0, .int .u8 0, .int .u8 0] 45 (0, 0)) := heap_alloc_new wr _
      have hb5 : Below wr.heap.size wr ((wr.alloc (.cells #[.int .u8 0, .int .u8 0, .int .u8 0, .int .u8 0, .int .u8 0, .int .u8 0, .int .u8 0, .int .u8 0, .int .u8 0, .int .u8 0, .int .u8 0, .int .u8 0, .int .u8 0, .int .u8 0, .int .u8 0, .int .u8 0, .int .u8 0, .int .u8 0, .int .u8 0, .int .u8 0, .int .u8 0, .int .u8 0, .int .u8 0, .int .u8 0] 45)).setCells wr.heap.size 0 (encB x)) := below_setCells (encB x) 0 ((Below.refl _ _).alloc (Nat.le_refl _) _) (Nat.le_refl _)
      have hR5 := World.rangeAt_setCells_same (wr.alloc (.cells #[.int .u8 0, .int .u8 0, .int .u8 0, .int .u8 0, .int .u8 0, .int .u8 0, .int .u8 0, .int .u8 0, .int .u8 0, .int .u8 0, .int .u8 0, .int .u8 0, .int .u8 0, .int .u8 0, .int .u8 0, .int .u8 0, .int .u8 0, .int .u8 0, .int .u8 0, .int .u8 0, .int .u8 0, .int .u8 0, .int .u8 0, .int .u8 0] 45)) wr.heap.size 0 (encB x) (by rw [encB_len]; exact there24 hA5 rfl)
      refine wpList_store_mid rfl 45 _ _ rfl wr.heap.size 0 (encB x).toArray rfl rfl (by rw [encB_size]; exact there24 hA5 rfl) (inf67.trans (by rw [encB_size])) (all_oneCell_toArray (encB_one x)) ?_
      refine wpList_nil ?_
      have hbx := World.block_lt_of_cell? _ _ (hR5 0 _ (encB_get x 0 (by decide)))
      simp only at hbx
      clear hA5 hrj
      generalize (wr.alloc (.cells #[.int .u8 0, .int .u8 0, .int .u8 0, .int .u8 0, .int .u8 0, .int .u8 0, .int .u8 0, .int .u8 0, .int .u8 0, .int .u8 0, .int .u8 0, .int .u8 0, .int .u8 0, .int .u8 0, .int .u8 0, .int .u8 0, .int .u8 0, .int .u8 0, .int .u8 0, .int .u8 0, .int .u8 0, .int .u8 0, .int .u8 0, .int .u8 0] 45)).setCells wr.heap.size 0 (encB x) = w5 at *
      have hM5 := hM.out.later keyK hb5
      have hO5 := hO.later hb5
      have hb05 : Below w.heap.size w w5 := hb.trans (hb5.mono hb.size)
      have hMl := hM.out.lt keyK
      have hne : w.heap.size ≠ wr.heap.size := by omega
      have hR5d : w5.drew.rangeAt wr.heap.size 12 (numL x) := range_nums hR5
      have hM5d : VMS keyK w5.drew w.heap.size _ _ := hM5.later keyK ((Below.refl _ w5).drew)
      clear hM hO hR5 hM5
      generalize wr.heap.size = BX at *
      generalize hl : numsL (L.take j) = l at *
      clear hl
      go_upto_region 5 with fail
      refine wp_region_held_drew (S := fun w' => w'.rangeAt BX 12 (numL x)) (by kernel_rfl) hR5d (fun hH0 => ?_)
      refine wpAnyH_take (i := 0) (v := _) rfl (by kernel_rfl) (by kernel_rfl) (by kernel_rfl) (fun _ _ _ h => h) (Or.inl ⟨by rfl, fun _ _ => rfl⟩) hH0 ?_
      refine wpAnyH_take (i := 1) (v := _) rfl (by kernel_rfl) (by kernel_rfl) (by kernel_rfl) (fun _ _ _ h => h) (Or.inl ⟨by rfl, fun _ _ => rfl⟩) hH0 ?_
      refine wpAnyH_take (i := 2) (v := .agg (numL x).toArray) rfl (by kernel_rfl) (by kernel_rfl) (by kernel_rfl) (fun _ _ _ h => h) (yieldsIf_load_mid (by rfl) 43 _ rfl BX 12 rfl (numL x) _ (fun _ h => h) Try.underlying43 rfl (inf65.trans (by rw [numL_len]))) hH0 ?_
      have hkl : (x.1.drop 12).length = 12 := by simp [x.2]
      have hlook := VM.look_run keyK 58 3 Try.underlying58 _ (zeroInt _) w.heap.size _ _ (hM5d.vm keyK) (x.1.drop 12) hkl
      rw [show keyK.enc (x.1.drop 12) = .agg (numL x).toArray from rfl, cntF_look] at hlook
      have hcl : l.count (x.1.drop 12) ≤ 4096 := Nat.le_trans (List.count_le_length) HLK.out
      obtain ⟨v0, st, w6, hlk6, hme, ht6, hes⟩ := VMS.entry keyK hM5d Try.underlying58 zeroInt (x.1.drop 12) hkl (.int .i64 ((l.count (x.1.drop 12) + 1 : Nat) : Int)) (by have := ddp_length l; have := HLK.out; omega)
      rw [show keyK.enc (x.1.drop 12) = .agg (numL x).toArray from rfl] at hme hlk6
      rw [cntF_look] at hlk6
      rw [cntF_snoc, ddp_cnt, ← HS.out] at hes
      generalize hc : l.count (x.1.drop 12) = c at *
      have HC := Lib.hid hc
      have hcc : ((c + 1 : Nat) : Int) = (c : Int) + 1 := by omega
      have hwr : IntKind.i64.wrap ((c : Int) + 1) = (c : Int) + 1 := IntWalk.i64_in _ ⟨by omega, by omega⟩
      rw [hcc, ← hwr] at hes
      clear hc hcc hwr
      obtain ⟨w7, hst, ht7, hs7, hM7⟩ := hes w6 rfl
      have hR6 : w6.rangeAt BX 12 (numL x) := range_heap hH0 (ht6.block BX (show BX < w5.heap.size from hbx) (by simp; omega))
      have hR7 : w7.rangeAt BX 12 (numL x) := range_heap hR6 (ht7.block BX (Nat.lt_of_lt_of_le (show BX < w5.drew.heap.size from hbx) ht6.size) (by simp; omega))
      have hb07 : Below w.heap.size w w7 := ((hb05.trans ((Below.refl _ w5).drew.mono hb05.size)).trans (ht6.below (Nat.le_refl _) (hM5d.lt keyK))).trans (ht7.below (Nat.le_refl _) (Nat.lt_of_lt_of_le (hM5d.lt keyK) ht6.size))
      have hgne : g ≠ w.heap.size := by omega
      have hO7 : OwnsB w7 w1.heap.size (.slice (some ⟨g, 0, none⟩) L.length capb) L := World.ownsRow.kept (World.ownsRow.kept (hO5.later ((Below.refl _ w5).drew)) ht6 (.inr (by simp [Value.ownBlock]; exact hgne))) ht7 (.inr (by simp [Value.ownBlock]; exact hgne))
      have HM7 := Lib.hid hM7
      clear hM7 hM5d hes ht7 ht6 hs7 hO5 hb05
      refine wpAnyH_ready (rs := [3, 5]) (by kernel_rfl) (by simp) ?_
      refine AllReadyH.cons rfl (fun K hK => ?_) (AllReadyH.cons rfl (fun K hK => ?_) AllReadyH.nil)
      · clear hlk6
        go_simp
        refine hK.out _ _ hH0 (fun hH3 => ?_)
        clear hK K hlook
        refine wpAnyH_take (i := 4) (v := _) rfl (by kernel_rfl) (by kernel_rfl) (by kernel_rfl) (fun _ _ _ h => h) (Or.inl ⟨by rfl, fun _ _ => rfl⟩) hH3 ?_
        refine wpAnyH_ready (rs := [5]) (by kernel_rfl) (by simp) ?_
        refine AllReadyH.cons rfl (fun K hK => ?_) AllReadyH.nil
        go_simp
        refine hK.out _ _ hR6 (fun hH5 => ?_)
        clear hK K hme
        refine wpAnyH_take (i := 6) (v := _) rfl (by kernel_rfl) (by kernel_rfl) (by kernel_rfl) (fun _ _ _ h => h) (Or.inl ⟨by rfl, fun _ _ => rfl⟩) hR6 ?_
        refine wpAnyH_ready (rs := [7]) (by kernel_rfl) (by simp) ?_
        refine AllReadyH.cons rfl (fun K hK => ?_) AllReadyH.nil
        go_simp
        refine hK.out _ _ hR7 (fun hH7 => ?_)
        clear hK K hst
        refine wpAnyH_done (by kernel_rfl) ?_ _
        go_wp2_with fail
        go_roundw
        case rel => exact ⟨j + 1, by omega, by go_num, HM7, hO7, hb07⟩
        case measure => simp [intOf]; omega
      · clear hlook
        go_simp
        refine hK.out _ _ hR6 (fun hH5 => ?_)
        clear hK K hme
        refine wpAnyH_take (i := 6) (v := _) rfl (by kernel_rfl) (by kernel_rfl) (by kernel_rfl) (fun _ _ _ h => h) (Or.inl ⟨by rfl, fun _ _ => rfl⟩) hR6 ?_
        refine wpAnyH_ready (rs := [3]) (by kernel_rfl) (by simp) ?_
        refine AllReadyH.cons rfl (fun K hK => ?_) AllReadyH.nil
        go_simp
        refine hK.out _ _ hR6 (fun hH3 => ?_)
        clear hK K hlk6
        refine wpAnyH_take (i := 4) (v := _) rfl (by kernel_rfl) (by kernel_rfl) (by kernel_rfl) (fun _ _ _ h => h) (Or.inl ⟨by rfl, fun _ _ => rfl⟩) hR6 ?_
        refine wpAnyH_ready (rs := [7]) (by kernel_rfl) (by simp) ?_
        refine AllReadyH.cons rfl (fun K hK => ?_) AllReadyH.nil
        go_simp
        refine hK.out _ _ hR7 (fun hH7 => ?_)
        clear hK K hst
        refine wpAnyH_done (by kernel_rfl) ?_ _
        go_wp2_with fail
        go_roundw
        case rel => exact ⟨j + 1, by omega, by go_num, HM7, hO7, hb07⟩
        case measure => simp [intOf]; omega
    · obtain rfl : j = L.length := by omega
      rw [List.take_length] at hM
      clear hO
      go_wp2_with fail
      go_ret
      exact ⟨_, rfl, hM.out, hb⟩
end Go.Proofs.Ythlbplmghjaeoae
