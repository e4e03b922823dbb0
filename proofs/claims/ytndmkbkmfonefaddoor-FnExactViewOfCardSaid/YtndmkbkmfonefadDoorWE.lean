/- The view of a board with some cells open, by the program. -/
import Derived.Test.YtndmkbkmfonefadDoorWD
import Derived.Test.YtndmkbkmfonefadDoorWB
import Derived.Outline
namespace Go.Proofs.YtndmkbkmfonefadDoor
open Go.RowKit

theorem isMine_byte (c : UInt8) : ((c.toNat : Int) == 42) = (c == 42) := byte_beq c 42 (by omega)
theorem vo_bad {l : List UInt8} {xs : List Int} (h : boGoodM l = false) : voOK l xs = false := by rw [voOK, h]; rfl
theorem vo_ris {l : List UInt8} {xs : List Int} (h : risesM ((gCells l).length : Int) (-1) xs = false) : voOK l xs = false := by rw [voOK, h]; simp
theorem vo_far {l : List UInt8} {xs : List Int} (h : ¬ (gCells l).length ≤ xs.length + 14) : voOK l xs = false := by rw [voOK]; simp [h]
theorem vo_mine {l : List UInt8} {xs : List Int} (h : noMine (gCells l) xs = false) : voOK l xs = false := by rw [voOK, h]; simp
theorem vo_yes {l : List UInt8} {xs : List Int} (h1 : boGoodM l = true) (h2 : risesM ((gCells l).length : Int) (-1) xs = true) (h3 : (gCells l).length ≤ xs.length + 14) (h4 : noMine (gCells l) xs = true) : voOK l xs = true := by rw [voOK, h1, h2, h4]; simp [h3]

set_option maxRecDepth 100000 in
set_option maxHeartbeats 1600000 in
theorem iViewOf_any (l : List UInt8) (xs : List Int) (a : Option Addr) (cap : Nat) (w : World) (hM : HasMax w) (hl : l.length ≤ 1048576) (hat : At w a (ints xs)) (hx : xs.length ≤ 1048576) :
    Calls Tryd.prog 30 #[.string ⟨l.toArray⟩, .slice a xs.length cap] w fun e w' => e = .returned (.tuple #[.string ⟨(voM l xs).toArray⟩, .bool (voOK l xs)]) ∧ Below w.heap.size w w' := by
  have h64 := gCells_le l
  have HN := Lib.hid (gCells_len l)
  have hz := gSize l
  have HNO := Lib.hid (vo_no (l := l) (xs := xs))
  have HBAD := Lib.hid (vo_bad (l := l) (xs := xs))
  have HRIS := Lib.hid (vo_ris (l := l) (xs := xs))
  have HFAR := Lib.hid (vo_far (l := l) (xs := xs))
  have HMIN := Lib.hid (vo_mine (l := l) (xs := xs))
  have HYES := Lib.hid (vo_yes (l := l) (xs := xs))
  have HVM : Hid (voOK l xs = true → voM l xs = textM (seeM (gCells l) (gW l) (fun k => hasI xs k)) (gW l) (gH l)) := fun h => by rw [voM, if_pos h]
  have hrb := fun w h => readBoard_any l w h hl
  generalize voM l xs = vm at *
  generalize voOK l xs = vo at *
  generalize gCells l = cells at *
  generalize gW l = W at *
  generalize gH l = H at *
  have hai := fun w h => areInc_any xs (cells.length : Int) a cap w h hx
  cases hg : boGoodM l with
  | false =>
    rw [hg] at hrb
    have HO := Lib.hid (HBAD.out hg)
    have HT := Lib.hid (HNO.out HO.out)
    clear hg
    go_enter Tryd.func30, Tryd.ntmps30
    go_wp2_with fail
    refine (hrb _ hM).mono ?_
    rintro e w1 ⟨a1, c1, rfl, hown1, hb1⟩
    go_wp2_with fail
    go_ret2
    exact ⟨by rw [HO.out, HT.out]; rfl, hb1.alloc hb1.size _⟩
  | true =>
    rw [hg] at hrb
    have HG := Lib.hid hg
    cases hr : risesM (cells.length : Int) (-1) xs with
    | false =>
      rw [hr] at hai
      have HO := Lib.hid (HRIS.out hr)
      have HT := Lib.hid (HNO.out HO.out)
      clear hg hr
      go_enter Tryd.func30, Tryd.ntmps30
      go_wp2_with fail
      refine (hrb _ hM).mono ?_
      rintro e w1 ⟨a1, c1, rfl, hown1, hb1⟩
      have hb2 := hb1.alloc hb1.size (.cells #[.int .i64 W, .int .i64 H, .slice a1 cells.length c1, .bool false] 45)
      go_wp2_with fail
      refine (hai _ (hat.later rfl hb2)).mono ?_
      rintro e w2 ⟨rfl, rfl⟩
      go_wp2_with fail
      go_ret2
      exact ⟨by rw [HO.out, HT.out]; rfl, hb2⟩
    | true =>
      rw [hr] at hai
      have HR := Lib.hid hr
      clear hg hr
      by_cases hf : cells.length ≤ xs.length + 14
      · have HF := Lib.hid hf
        have i14 : ¬ (14 < (cells.length : Int) - (xs.length : Int)) := by omega
        go_enter Tryd.func30, Tryd.ntmps30
        go_wp2_with fail
        refine (hrb _ hM).mono ?_
        rintro e w1 ⟨a1, c1, rfl, hown1, hb1⟩
        have hb2 := hb1.alloc hb1.size (.cells #[.int .i64 W, .int .i64 H, .slice a1 cells.length c1, .bool false] 45)
        go_wp2_with fail
        refine (hai _ (hat.later rfl hb2)).mono ?_
        rintro e w2 ⟨rfl, rfl⟩
        have hmm := @run_makeMap Tryd.prog
        have hs1 := hb1.size
        have hown2 := hown1.later ((Below.refl _ w1).alloc (Nat.le_refl _) (.cells #[.int .i64 W, .int .i64 H, .slice a1 cells.length c1, .bool false] 45))
        have hG2 : (w1.alloc (.cells #[.int .i64 W, .int .i64 H, .slice a1 cells.length c1, .bool false] 45)).heap[w1.heap.size]? = some (.cells #[.int .i64 W, .int .i64 H, .slice a1 cells.length c1, .bool false] 45 (0, 0)) := heap_alloc_new w1 _
        have hs2 : (w1.alloc (.cells #[.int .i64 W, .int .i64 H, .slice a1 cells.length c1, .bool false] 45)).heap.size = w1.heap.size + 1 := by simp
        generalize w1.alloc (.cells #[.int .i64 W, .int .i64 H, .slice a1 cells.length c1, .bool false] 45) = w2 at *
        have hM3 := Marks.made w2
        have hb3 : Below w2.heap.size w2 (w2.alloc (.map #[] 0)) := (Below.refl _ _).alloc (Nat.le_refl _) _
        have hs3 : (w2.alloc (.map #[] 0)).heap.size = w2.heap.size + 1 := by simp
        have hG3 := (hb3.block w1.heap.size (by omega)).trans hG2
        have hat3 := (hown2.later hb3).at
        have hatx : At (w2.alloc (.map #[] 0)) a (ints xs) := hat.later rfl (hb2.trans (hb3.mono hb2.size))
        have hb03 := hb2.trans (hb3.mono hb2.size)
        have hs02 := hb2.size
        have HS2 := Lib.hid hs2
        have HS3 := Lib.hid hs3
        have HG3 := Lib.hid hG3
        have hf2 := cell_of_block hG2 2
        simp at hf2
        clear hG2 hG3 hs2 hs3 hf hown1 hown2 hb1 hb2 hb3 hai hrb
        go_upto_region 5 with fail
        generalize w2.alloc (.map #[] 0) = w3 at *
        clear hf2 hmm
        go_wp2_with fail
        have HIN : Hid (∀ x ∈ xs, 0 ≤ x ∧ x < (cells.length : Int)) := rises_in xs (-1) (by omega) HR.out
        go_loopw [38] (fun i wr => ∃ k : Nat, k ≤ xs.length ∧ i = .int .i64 k ∧ Marks wr w2.heap.size ((xs.take k).map Int.toNat) ∧ Touch w2.heap.size w3 wr ∧ Hid (noMine cells xs = noMine cells (xs.drop k))) (fun i _ => xs.length - (intOf i).toNat)
        case atStart => exact ⟨0, Nat.zero_le _, rfl, hM3, Touch.refl _ _, by simp [Hid]⟩
        case round =>
          obtain ⟨k, hk, rfl, hMr, ht, hno⟩ := hrel
          have hGr := (ht.block w1.heap.size (by have := HS2.out; have := HS3.out; omega) (by have := HS2.out; simp; omega)).trans HG3.out
          have hf0 := cell_of_block hGr 0
          have hf1 := cell_of_block hGr 1
          have hf2 := cell_of_block hGr 2
          have hf3 := cell_of_block hGr 3
          simp at hf0 hf1 hf2 hf3
          have hatr := hat3.touch ht hM3.nocells
          have hatxr := hatx.touch ht hM3.nocells
          have htb : Below w.heap.size w wr := hb03.trans (ht.below (by omega) (by have := HS3.out; omega))
          by_cases hlt : k < xs.length
          · have Ht := Lib.hid (List.drop_eq_getElem_cons hlt)
            have hin := HIN.out _ (List.getElem_mem hlt)
            obtain ⟨b, off, he, hcx⟩ := ints_at hatxr k hlt
            subst he
            have htk : Hid ((xs.take (k + 1)).map Int.toNat = (xs.take k).map Int.toNat ++ [xs[k].toNat]) := by rw [Hid, List.take_succ_eq_append_getElem hlt, List.map_append]; rfl
            have hnm : Hid (noMine cells xs = (!(cells.getD xs[k].toNat 0 == 42) && noMine cells (xs.drop (k + 1)))) := by rw [Hid, hno.out, Ht.out]; rfl
            obtain ⟨j, hj⟩ : ∃ j : Nat, xs[k] = (j : Int) := ⟨xs[k].toNat, by omega⟩
            rw [hj] at hcx htk hnm hin
            rw [Int.toNat_natCast] at htk hnm
            have hjn : j < cells.length := by omega
            have him := isMine_any (J := false) W H a1 cells c1 j wr hatr hjn h64
            rw [isMine_byte] at him
            have hgd : cells.getD j 0 = cells[j] := by simp [List.getD, hjn]
            rw [hgd] at hnm
            clear hj hin hgd
            cases hmi : (cells[j] == 42) with
            | true =>
              rw [hmi] at him hnm
              have HO := Lib.hid (HMIN.out (by rw [hnm.out]; rfl))
              have HT := Lib.hid (HNO.out HO.out)
              have HIM := Lib.hid him
              clear hmi him
              go_wp2_with fail
              refine HIM.out.mono ?_
              rintro e w4 ⟨rfl, hb4⟩
              go_wp2_with fail
              go_ret2
              exact ⟨by rw [HO.out, HT.out]; rfl, htb.trans (hb4.mono htb.size)⟩
            | false =>
              rw [hmi] at him hnm
              have HIM := Lib.hid him
              clear hmi him
              go_wp2_with fail
              refine HIM.out.mono ?_
              rintro e w4 ⟨rfl, hb4⟩
              have hM4 := hMr.later hb4
              have ht4 := ht.trans (Touch.of hb4)
              go_wp2_with (at_mapUpdate; refine wpList_mark_put rfl _ _ _ rfl _ _ rfl hM4 j rfl (by omega) rfl (by simp; omega) ?_; intro w5 hM5 ht5)
              rw [← htk.out] at hM5
              go_roundw
              case rel => exact ⟨k + 1, by omega, by go_num, hM5, ht4.trans ht5, by rw [Hid, hnm.out]; rfl⟩
              case measure => simp [intOf]; omega
          · obtain rfl : k = xs.length := by omega
            rw [List.take_length] at hMr
            have HO := Lib.hid (HYES.out HG.out HR.out HF.out (by rw [hno.out, List.drop_length]; rfl))
            have HT : Hid (textM (seeM cells W (fun k => decide (k ∈ xs.map Int.toNat))) W H = vm) := by
              rw [Hid, HVM.out HO.out]
              congr 1
              refine seeM_congr (fun k hk => ?_)
              have hi := HIN.out
              rw [Bool.eq_iff_iff, decide_eq_true_iff, List.mem_map]
              constructor
              · rintro ⟨y, hy, rfl⟩
                exact List.any_eq_true.2 ⟨y, hy, by have := hi y hy; simp; omega⟩
              · intro q
                obtain ⟨y, hy, e⟩ := List.any_eq_true.1 q
                exact ⟨y, hy, by simp at e; omega⟩
            have hst := seenText_any W H a1 cells c1 w2.heap.size (xs.map Int.toNat) wr hatr hMr HN.out hz
            rw [HT.out] at hst
            have HST := Lib.hid hst
            clear hst
            go_wp2_with fail
            refine HST.out.mono ?_
            rintro e w5 ⟨rfl, hb5⟩
            go_wp2_with fail
            go_ret2
            exact ⟨by rw [HO.out]; rfl, htb.trans (hb5.mono htb.size)⟩
      · have HO := Lib.hid (HFAR.out hf)
        have HT := Lib.hid (HNO.out HO.out)
        have i14 : (14 < (cells.length : Int) - (xs.length : Int)) := by omega
        clear hf
        go_enter Tryd.func30, Tryd.ntmps30
        go_wp2_with fail
        refine (hrb _ hM).mono ?_
        rintro e w1 ⟨a1, c1, rfl, hown1, hb1⟩
        have hb2 := hb1.alloc hb1.size (.cells #[.int .i64 W, .int .i64 H, .slice a1 cells.length c1, .bool false] 45)
        go_wp2_with fail
        refine (hai _ (hat.later rfl hb2)).mono ?_
        rintro e w2 ⟨rfl, rfl⟩
        go_wp2_with fail
        go_ret2
        exact ⟨by rw [HO.out, HT.out]; rfl, hb2⟩
end Go.Proofs.YtndmkbkmfonefadDoor
