/- Clicks that open nothing new, by the program. -/
import Derived.Test.YtndmkbkmfonefadDoorVC
import Derived.Test.YtndmkbkmfonefadDoorV7
import Derived.StillTailTactics
import Derived.Outline
namespace Go.Proofs.YtndmkbkmfonefadDoor
open Go.RowKit

theorem nd_k (l : List UInt8) (xs : List Int) : ndOf l xs = needM (kC l xs) (kW l xs) (kS l xs) := by
  unfold ndOf kC kW kS
  split
  · rfl
  · rfl
theorem ndOf_len (l : List UInt8) (xs : List Int) : (ndOf l xs).length ≤ 1048576 := by
  rw [nd_k]
  have := need_len (kC l xs) (kW l xs) (kS l xs) [] 0
  have := kS_le l xs
  unfold needM; omega

set_option maxRecDepth 100000 in
set_option maxHeartbeats 3200000 in
theorem iNeedlessClicks_any (l : List UInt8) (xs : List Int) (a : Option Addr) (cap : Nat) (w : World) (hM : HasMax w) (hl : l.length ≤ 1048576) (hat : At w a (ints xs)) (hx : xs.length ≤ 1048576) :
    Calls Tryd.prog 22 #[.string ⟨l.toArray⟩, .slice a xs.length cap] w fun e w' => ∃ a' c', e = .returned (.tuple #[.slice a' (ndOf l xs).length c', .bool (clkOK l xs)]) ∧ Owns w' w.heap.size 3 (.slice a' (ndOf l xs).length c') (nats (ndOf l xs)) ∧ Below w.heap.size w w' := by
  have hrc := readClicks_any l xs a cap w hM hl hat hx
  have h64 := kC_le l xs
  have hcs := kS_le l xs
  have HW := Lib.hid (kW_pos l xs)
  have HC := Lib.hid (kS_lt l xs)
  have HN : Hid (ndOf l xs = needGo (kC l xs) (kW l xs) [] 0 (kS l xs)) := nd_k l xs
  have HND := Lib.hid (ndOf_len l xs)
  have hz : ∀ w : World, (zeroValue 48).run Tryd.prog w = .ok (.agg (lst [])) w := fun w => by kernel_rfl
  have hszl : (Tryd.prog.info? 48).map (·.size) = some (lst (kS l xs)).size := by rw [lst_size (kS_le l xs)]; kernel_rfl
  have hszz : (lst []).size = (lst (kS l xs)).size := by rw [lst_size (kS_le l xs)]; rfl
  have honl : (lst (kS l xs)).all (·.oneCell') = true := lst_one _
  have HSZL := Lib.hid hszl
  have HSZZ := Lib.hid hszz
  have HONL := Lib.hid honl
  have HLC := Lib.hid (lst_count hcs)
  have HLA := Lib.hid (fun k hk => lst_at (cs := kS l xs) k hk)
  clear hszl hszz honl
  generalize lst [] = z0 at *
  generalize lst (kS l xs) = lq at *
  generalize kC l xs = cells at *
  generalize kW l xs = W at *
  generalize kH l xs = H at *
  generalize kS l xs = cs at *
  generalize ndOf l xs = nd at *
  have hmm := @run_makeMap Tryd.prog
  go_enter Tryd.func22, Tryd.ntmps22
  go_wp2_with fail
  refine hrc.mono ?_
  rintro e w1 ⟨a1, c1, rfl, hown1, hb1⟩
  have s1 := hb1.size
  go_upto_region 3 with (refine wpList_store_row rfl _ _ _ rfl (w1.heap.size + 1) lq rfl rfl 48 z0 (heap_alloc2_new w1 _ _) HSZL.out HSZZ.out HONL.out ?_)
  have hb0 : Below w1.heap.size w1 ((((w1.alloc (.cells #[.int .i64 W, .int .i64 H, .slice a1 cells.length c1, .bool false] 45)).alloc (.cells z0 48)).setRow (w1.heap.size + 1) lq).alloc (.map #[] 0)) :=
    (below_setRow (((Below.refl _ _).alloc (Nat.le_refl _) _).alloc (by simp) _) (by omega) _).alloc (by simp; omega) _
  have hs0 : ((((w1.alloc (.cells #[.int .i64 W, .int .i64 H, .slice a1 cells.length c1, .bool false] 45)).alloc (.cells z0 48)).setRow (w1.heap.size + 1) lq).alloc (.map #[] 0)).heap.size = w1.heap.size + 3 := by simp
  have hM0 : Marks ((((w1.alloc (.cells #[.int .i64 W, .int .i64 H, .slice a1 cells.length c1, .bool false] 45)).alloc (.cells z0 48)).setRow (w1.heap.size + 1) lq).alloc (.map #[] 0)) (w1.heap.size + 1 + 1) [] := by
    have := Marks.made (((w1.alloc (.cells #[.int .i64 W, .int .i64 H, .slice a1 cells.length c1, .bool false] 45)).alloc (.cells z0 48)).setRow (w1.heap.size + 1) lq)
    simpa using this
  have hG0 : ((((w1.alloc (.cells #[.int .i64 W, .int .i64 H, .slice a1 cells.length c1, .bool false] 45)).alloc (.cells z0 48)).setRow (w1.heap.size + 1) lq).alloc (.map #[] 0)).heap[w1.heap.size]? = some (.cells #[.int .i64 W, .int .i64 H, .slice a1 cells.length c1, .bool false] 45 (0, 0)) :=
    (heap_alloc_old _ _ (by simp; omega)).trans ((setRow_other _ _ _ _ (by omega)).trans (heap_alloc2_old w1 _ _))
  have hG1 : ((((w1.alloc (.cells #[.int .i64 W, .int .i64 H, .slice a1 cells.length c1, .bool false] 45)).alloc (.cells z0 48)).setRow (w1.heap.size + 1) lq).alloc (.map #[] 0)).heap[w1.heap.size + 1]? = some (.cells lq 48 (0, 0)) :=
    (heap_alloc_old _ _ (by simp)).trans (setRow_heap _ _ z0 _ _ _ (heap_alloc2_new w1 _ _))
  generalize (((w1.alloc (.cells #[.int .i64 W, .int .i64 H, .slice a1 cells.length c1, .bool false] 45)).alloc (.cells z0 48)).setRow (w1.heap.size + 1) lq).alloc (.map #[] 0) = w0 at *
  have hat0 := (hown1.later hb0).at
  have hk64 := cell_of_block hG1 64
  rw [HLC.out] at hk64
  have HG0 := Lib.hid hG0
  have HG1 := Lib.hid hG1
  have HS0 := Lib.hid hs0
  have HB0 : Hid (Below w.heap.size w w0) := hb1.trans (hb0.mono s1)
  generalize w1.heap.size = n1 at *
  have hn1 : w.heap.size ≤ n1 := s1
  clear hG0 hG1 hs0 hb0 hb1 hmm hown1
  go_wp2_with fail
  go_loopw [10, 23] (fun v i wr => ∃ (k : Nat) (PL AL acc : List Nat), k ≤ cs.length ∧ i = .int .i64 k ∧ acc.length ≤ k ∧ Owns wr (n1 + 3) 3 v (nats acc) ∧ Marks wr (n1 + 1 + 1) PL ∧ PL.length ≤ 64 * k ∧ Touch (n1 + 1 + 1) w0 wr ∧ Hid (∀ x, x ∈ PL ↔ x ∈ AL) ∧ Hid (Closed (nearM W cells.length) (zeroB cells W) PL) ∧ Hid (∀ x ∈ PL, x < cells.length) ∧ Hid (nd = acc ++ needGo cells W AL k (cs.drop k))) (fun _ i _ => cs.length - (intOf i).toNat)
  case atStart => exact ⟨0, [], [], [], Nat.zero_le _, rfl, Nat.le_refl _, Owns.nil _ _ _, hM0, by simp, Touch.refl _ _, by simp [Hid], closed_nil, by simp [Hid], by rw [Hid, HN.out]; simp⟩
  case round =>
    obtain ⟨k, PL, AL, acc, hk, rfl, hacc, hownv, hM, hpl, ht, hPA, hCl, hLt, hR⟩ := hrel
    have hw0 := HS0.out
    have htz := ht.size
    have hGr0 : wr.heap[n1]? = some (.cells #[.int .i64 W, .int .i64 H, .slice a1 cells.length c1, .bool false] 45 (0, 0)) := by rw [ht.block _ (by omega) (by simp; omega)]; exact HG0.out
    have hGr1 : wr.heap[n1 + 1]? = some (.cells lq 48 (0, 0)) := by rw [ht.block _ (by omega) (by simp)]; exact HG1.out
    have hf0 := cell_of_block hGr0 0
    have hf1 := cell_of_block hGr0 1
    have hf2 := cell_of_block hGr0 2
    have hf3 := cell_of_block hGr0 3
    simp at hf0 hf1 hf2 hf3
    have hatr := hat0.touch ht hM0.nocells
    by_cases hlt : k < cs.length
    · have Ht := Lib.hid (List.drop_eq_getElem_cons hlt)
      have hck := HC.out _ (List.getElem_mem hlt)
      have hkc := cell_of_block hGr1 k
      rw [HLA.out k hlt] at hkc
      have i64 : (k : Int) < 64 := by omega
      have hw1 : 1 ≤ W := HW.out (by omega)
      clear hw0
      go_wp2_with (at_len; refine wpList_marks_len rfl _ rfl rfl hM hLt.out ?_)
      go_still_tail 6, (by kernel_rfl)
      change wpList _ _ _ _ _ wr.drew
      have hMd : Marks wr.drew (n1 + 1 + 1) PL := hM
      have hatd : At wr.drew a1 (byts cells) := hatr.drew
      have hownd : Owns wr.drew (n1 + 3) 3 _ (nats acc) := hownv
      have htd : Touch (n1 + 1 + 1) w0 wr.drew := ht.trans (Touch.of (⟨rfl, rfl, rfl, Nat.le_refl _, fun _ _ => rfl⟩))
      have hbl := bfs_len (L0 := PL) (zero := zeroB cells W) (nearM_lts W cells.length) hck
      have hmem : Hid (∀ x, x ∈ PL ++ bfs (nearM W cells.length) (zeroB cells W) PL cells.length 0 [cs[k]] ↔ x ∈ AL ++ opM cells W cs[k]) := fun x => by
        rw [click_mem cells W cs[k] PL hck hCl.out x, List.mem_append, List.mem_append, hPA.out x]
      have hcl2 : Hid (Closed (nearM W cells.length) (zeroB cells W) (PL ++ bfs (nearM W cells.length) (zeroB cells W) PL cells.length 0 [cs[k]])) := bfs_closed (nearM_lts W cells.length) hck hCl.out
      have hlt2 : Hid (∀ x ∈ PL ++ bfs (nearM W cells.length) (zeroB cells W) PL cells.length 0 [cs[k]], x < cells.length) := by
        intro x hx
        rcases List.mem_append.1 hx with h | h
        · exact hLt.out x h
        · exact bfs_lt (nearM_lts W cells.length) hck x h
      have hpl2 : (PL ++ bfs (nearM W cells.length) (zeroB cells W) PL cells.length 0 [cs[k]]).length ≤ 64 * (k + 1) := by rw [List.length_append]; omega
      have hsm : sameB cells W AL cs[k] = (((sortM cells.length (PL ++ bfs (nearM W cells.length) (zeroB cells W) PL cells.length 0 [cs[k]])).length : Int) == ((sortM cells.length PL).length : Int)) := by
        rw [sameB, ← sortM_congr hmem.out, ← sortM_congr hPA.out, Bool.beq_eq_decide_eq, ← int_beq_len]
      have hR2 : Hid (nd = acc ++ ((if sameB cells W AL cs[k] = true then [k] else []) ++ needGo cells W (AL ++ opM cells W cs[k]) (k + 1) (cs.drop (k + 1)))) := by rw [Hid, hR.out, Ht.out, needGo]
      generalize wr.drew = wd at *
      clear hGr0 hGr1 hf0 hf1 hf2 hf3 hkc hM hatr ht hownv
      go_wp2_with fail
      refine (click_any W H a1 cells c1 (n1 + 1 + 1) PL cs[k] _ hatd hMd (by omega) hw1 h64 hck).mono ?_
      rintro e w2 ⟨rfl, hM2, ht2⟩
      have ht02 := htd.trans ht2
      have hown2 := hownd.touch ht2 (by omega)
      clear hMd hatd htd ht2 hownd
      generalize PL ++ bfs (nearM W cells.length) (zeroB cells W) PL cells.length 0 [cs[k]] = PL2 at *
      generalize (sortM cells.length PL).length = m1 at *
      have hlm := hlt2.out
      cases hsb : sameB cells W AL cs[k] with
      | true =>
        rw [hsb] at hsm
        have HSB := Lib.hid hsb
        rw [hsb, if_pos rfl] at hR2
        have hsm' := hsm.symm
        have s02 := ht02.size
        clear hsm hsb
        go_wp2_with (first | (at_len; refine wpList_marks_len (n := cells.length) rfl _ rfl rfl hM2 hlm ?_) | (at_builtin; refine wpList_app1 rfl _ _ _ rfl _ _ _ _ elemInt _ _ _ _ rfl rfl rfl hown2 rfl (by simp; omega) (by have := HS0.out; omega) (by simp; omega) ?_; intro v1 w3 hown3 hb3 hs3))
        rw [nats_snoc] at hown3
        go_roundw
        case rel => exact ⟨k + 1, PL2, AL ++ opM cells W cs[k], acc ++ [k], by omega, by go_num, by simp; omega, hown3, hM2.kept (C := n1 + 3) (by omega) hb3, hpl2, ht02.then hb3 (by have := HS0.out; omega), hmem, hcl2, hlt2, by rw [Hid, hR2.out]; simp⟩
        case measure => simp [intOf]; omega
      | false =>
        rw [hsb] at hsm
        rw [hsb, if_neg (by decide)] at hR2
        have hsm' := hsm.symm
        clear hsm hsb
        go_wp2_with (at_len; refine wpList_marks_len (n := cells.length) rfl _ rfl rfl hM2 hlm ?_)
        go_roundw
        case rel => exact ⟨k + 1, PL2, AL ++ opM cells W cs[k], acc, by omega, by go_num, by omega, hown2, hM2, hpl2, ht02, hmem, hcl2, hlt2, by rw [Hid, hR2.out]; simp⟩
        case measure => simp [intOf]; omega
    · obtain rfl : k = cs.length := by omega
      have hfin : acc = nd := by rw [hR.out, List.drop_length, needGo]; simp
      subst hfin
      go_wp2_with fail
      go_ret2
      obtain ⟨a', cap', hv⟩ := hownv.shape
      simp only [nats_length] at hv
      exact ⟨a', cap', by rw [← hv]; rfl, by rw [← hv]; exact hownv.mono (by omega), HB0.out.trans (ht.below (by omega) (by omega))⟩
end Go.Proofs.YtndmkbkmfonefadDoor
