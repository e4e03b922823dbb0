/- The board of a size and of mines: by the program. -/
import Derived.Test.YteajhjiibenenaaZ1
import Derived.Test.YteajhjiibenenaaU1
import Derived.Test.YteajhjiibenenaaT8
import Derived.Outline
namespace Go.Proofs.Yteajhjiibenenaa
open Go.RowKit

/-- Cells with mines put at some of them, one after another. -/
def paintM (c : List UInt8) : List Int → List UInt8
  | [] => c
  | x :: r => paintM (c.set x.toNat 42) r
@[simp] theorem paintM_length : ∀ (xs : List Int) (c : List UInt8), (paintM c xs).length = c.length
  | [], _ => rfl
  | x :: r, c => by rw [paintM, paintM_length r, List.length_set]
theorem paintM_get : ∀ (xs : List Int) (c : List UInt8) (i : Nat) (h : i < (paintM c xs).length) (h' : i < c.length), (∀ x ∈ xs, 0 ≤ x) → (paintM c xs)[i] = if hasI xs i = true then 42 else c[i]
  | [], c, i, _, _, _ => by simp [paintM, hasI]
  | x :: r, c, i, h, h', hx => by
    have h0 := hx x List.mem_cons_self
    have ih := paintM_get r (c.set x.toNat 42) i (by simpa using h) (by simpa using h') (fun y hy => hx y (List.mem_cons_of_mem _ hy))
    simp only [paintM]
    rw [ih, List.getElem_set]
    simp only [hasI, List.any_cons]
    by_cases q : x.toNat = i
    · have e : (x == (i : Int)) = true := by simp; omega
      simp [q, e]
    · have e : (x == (i : Int)) = false := by simp; omega
      simp [q, e]
theorem ofGo_get (xs : List Int) : ∀ (m k i : Nat) (h : i < (ofGo xs k m).length), (ofGo xs k m)[i] = if hasI xs ((k + i : Nat) : Int) = true then 42 else 46
  | 0, _, _, h => by simp at h
  | m + 1, k, 0, _ => by simp [ofGo]
  | m + 1, k, i + 1, h => by
    have ih := ofGo_get xs m (k + 1) i (by simpa using h)
    simp only [ofGo, List.getElem_cons_succ]
    rw [ih, show k + 1 + i = k + (i + 1) by omega]
theorem paint_of (xs : List Int) (n : Nat) (h : ∀ x ∈ xs, 0 ≤ x) : paintM (List.replicate n 46) xs = ofGo xs 0 n := by
  apply List.ext_getElem
  · simp
  · intro i h1 h2
    rw [paintM_get xs _ i h1 (by simpa using h1) h, ofGo_get xs n 0 i h2]
    simp

/-- Is there such a board; and its text. -/
def bmOK (w h : Int) (xs : List Int) : Bool := inB w 1 8 && inB h 1 8 && risesM (w * h) (-1) xs
def bmM (w h : Int) (xs : List Int) : List UInt8 := if bmOK w h xs = true then textM (ofGo xs 0 (w.toNat * h.toNat)) w.toNat h.toNat else []
theorem bm_no {w h : Int} {xs : List Int} (q : bmOK w h xs = false) : bmM w h xs = [] := by rw [bmM, q]; rfl
theorem bm_size {w h : Int} (xs : List Int) (q : (inB w 1 8 && inB h 1 8) = false) : bmOK w h xs = false := by rw [bmOK, q]; rfl
theorem bm_nat (W H : Nat) (xs : List Int) (hW : 1 ≤ W ∧ W ≤ 8) (hH : 1 ≤ H ∧ H ≤ 8) : bmOK W H xs = risesM ((W * H : Nat) : Int) (-1) xs := by
  have e1 : inB (W : Int) 1 8 = true := by simp [inB]; omega
  have e2 : inB (H : Int) 1 8 = true := by simp [inB]; omega
  rw [bmOK, e1, e2]; simp
theorem bm_yes (W H : Nat) (xs : List Int) (q : bmOK W H xs = true) : bmM W H xs = textM (ofGo xs 0 (W * H)) W H := by
  rw [bmM, if_pos q]; rfl

set_option maxRecDepth 100000 in
theorem isSizeI_no (x y : Int) (w : World) (h : (inB x 1 8 && inB y 1 8) = false) :
    Calls Try.prog 43 #[.int .i64 x, .int .i64 y] w fun e w' => e = .returned (.bool false) ∧ w = w' := by
  have key : x < 1 ∨ (1 ≤ x ∧ 8 < x) ∨ (1 ≤ x ∧ x ≤ 8 ∧ y < 1) ∨ (1 ≤ x ∧ x ≤ 8 ∧ 1 ≤ y ∧ 8 < y) := by
    simp only [inB, Bool.and_eq_false_iff, decide_eq_false_iff_not] at h
    omega
  clear h
  rcases key with h1 | ⟨h1, h2⟩ | ⟨h1, h2, h3⟩ | ⟨h1, h2, h3, h4⟩
  all_goals
    go_enter Try.func43, Try.ntmps43
    go_wp2
    go_ret
    first
      | exact ⟨rfl, rfl⟩
      | exact ⟨by simp; omega, rfl⟩

set_option maxRecDepth 100000 in
set_option maxHeartbeats 1600000 in
theorem iBoM_yes (W H : Nat) (xs : List Int) (am : Option Addr) (cm : Nat) (w : World) (hat : At w am (ints xs)) (hl : xs.length ≤ 1048576) (hW : 1 ≤ W ∧ W ≤ 8) (hH : 1 ≤ H ∧ H ≤ 8) (hr : risesM ((W * H : Nat) : Int) (-1) xs = true) :
    Calls Try.prog 22 #[.int .i64 W, .int .i64 H, .slice am xs.length cm] w fun e w' => e = .returned (.tuple #[.string ⟨(bmM W H xs).toArray⟩, .bool (bmOK W H xs)]) ∧ Below w.heap.size w w' := by
  have hok := bm_nat W H xs hW hH
  rw [hr] at hok
  have HOK := Lib.hid hok
  have HM := Lib.hid (bm_yes W H xs hok)
  have hin := rises_in xs (-1) (by omega) hr
  have HP := Lib.hid (paint_of xs (W * H) (fun x hx => (hin x hx).1))
  have h64 : W * H ≤ 64 := Nat.mul_le_mul hW.2 hH.2
  have hsz := isSize_any W H
  rw [show sizeOK W H = true by simp [sizeOK]; omega] at hsz
  have har := fun w h => areInc_any xs ((W * H : Nat) : Int) am cm w h hl
  rw [hr] at har
  have hfg := fun w => freeGrid_any W H w hW.2 hH.2
  have htx := fun a cells cap w h1 h2 h3 => text_any W H a cells cap w h1 h2 h3 (.inr ⟨hW, hH⟩)
  have hHW := Lib.hid (show (W * H : Nat) = W * H from rfl)
  have e1 : ((W : Int) * (H : Int)) = ((W * H : Nat) : Int) := by simp
  have m1 : wrap64 ((W : Int) * (H : Int)) = ((W * H : Nat) : Int) := by rw [e1, IntWalk.wrap64_in _ ⟨by omega, by omega⟩]
  obtain ⟨n, hn⟩ : ∃ n, W * H = n := ⟨_, rfl⟩
  rw [hn] at HM HP h64 har hfg hin m1
  have HN := Lib.hid hn
  have HIN := Lib.hid hin
  obtain ⟨w1, w8⟩ := hW
  obtain ⟨h1, h8⟩ := hH
  clear hok hr hin e1 hHW
  clear hn
  go_enter Try.func22, Try.ntmps22
  go_wp2_with fail
  refine (hsz _).mono ?_
  rintro e w' ⟨rfl, rfl⟩
  go_wp2_with fail
  rw [m1]
  refine (har _ hat).mono ?_
  rintro e w' ⟨rfl, rfl⟩
  go_wp2_with fail
  refine (hfg _).mono ?_
  rintro e w2 ⟨a, cap, rfl, hown, hb⟩
  have s1 := hb.size
  have hcap := hown.cap
  have htl : (byts (List.replicate n 46)).length = n := by simp
  go_wp2_with fail
  have hG1 : (w2.alloc (.cells #[.int .i64 W, .int .i64 H, .slice a n cap, .bool false] 80)).heap[w2.heap.size]? = some (.cells #[.int .i64 W, .int .i64 H, .slice a n cap, .bool false] 80 (0, 0)) := heap_alloc_new w2 _
  have hs0 : (w2.alloc (.cells #[.int .i64 W, .int .i64 H, .slice a n cap, .bool false] 80)).heap.size = w2.heap.size + 1 := by simp
  have hb0 := hb.alloc s1 (.cells #[.int .i64 W, .int .i64 H, .slice a n cap, .bool false] 80)
  have hown0 := hown.later ((Below.refl _ w2).alloc (Nat.le_refl _) (.cells #[.int .i64 W, .int .i64 H, .slice a n cap, .bool false] 80))
  have hbk := hown.lt
  generalize w2.alloc (.cells #[.int .i64 W, .int .i64 H, .slice a n cap, .bool false] 80) = w0 at *
  have HG1 := Lib.hid hG1
  clear hG1 hsz har hfg
  go_loopw [28] (fun i wr => ∃ (k : Nat) (cs : List UInt8), k ≤ xs.length ∧ i = .int .i64 k ∧ cs.length = n ∧ Owns wr w.heap.size 5 (.slice a n cap) (byts cs) ∧ Below w.heap.size w wr ∧ wr.heap[w2.heap.size]? = some (.cells #[.int .i64 W, .int .i64 H, .slice a n cap, .bool false] 80 (0, 0)) ∧ Hid (paintM (List.replicate n 46) xs = paintM cs (xs.drop k))) (fun i _ => xs.length - (intOf i).toNat)
  case atStart => exact ⟨0, List.replicate n 46, Nat.zero_le _, rfl, by simp, hown0, hb0, HG1.out, by simp [Hid]⟩
  case round =>
    obtain ⟨k, cs, hk, rfl, hcs, hownr, hbr, hGr, hR⟩ := hrel
    have hf0 := cell_of_block hGr 0
    have hf1 := cell_of_block hGr 1
    have hf2 := cell_of_block hGr 2
    have hf3 := cell_of_block hGr 3
    simp at hf0 hf1 hf2 hf3
    have HCS := Lib.hid hcs
    by_cases hlt : k < xs.length
    · have Ht := Lib.hid (List.drop_eq_getElem_cons hlt)
      obtain ⟨x0, xn⟩ := HIN.out _ (List.getElem_mem hlt)
      obtain ⟨b, off, hbe, hcx⟩ := ints_at (hat.below hat (Nat.le_refl _) hbr) k hlt
      subst hbe
      obtain ⟨x, hx⟩ : ∃ x : Nat, xs[k] = (x : Int) := ⟨xs[k].toNat, by omega⟩
      rw [hx] at hcx x0 xn
      have HX := Lib.hid hx
      clear hx
      obtain ⟨g, rfl, hg1, hg2⟩ := hownr.zero (by simp; omega)
      have hfr := hownr.froz x
      obtain ⟨g', o', he, hcell0⟩ := byts_at hownr.at x (by omega)
      simp only [Option.some.injEq, Addr.mk.injEq, and_true] at he
      obtain ⟨rfl, rfl⟩ := he
      rw [Nat.zero_add] at hcell0
      obtain ⟨old, hcell⟩ : ∃ v, wr.cell? ⟨g, x, none⟩ = some v := ⟨_, hcell0⟩
      clear hcell0
      have hst := hownr.put x (.int .u8 ((42 : UInt8).toNat : Int))
      rw [byts_set] at hst
      have hgG : w2.heap.size ≠ g := by have := (hbk g rfl).2; omega
      have hb2 : ∀ v, (wr.setCell ⟨g, x, none⟩ v).heap[w2.heap.size]? = some (.cells #[.int .i64 W, .int .i64 H, .slice (some ⟨g, 0, none⟩) n cap, .bool false] 80 (0, 0)) := fun v => (block_other hgG x v).trans hGr
      have HB2 := Lib.hid hb2
      clear hcs hGr hb2
      go_wp2_with fail
      go_roundw
      case rel => exact ⟨k + 1, cs.set x 42, by omega, by go_num, by rw [List.length_set]; exact HCS.out, hst, hbr.trans ((Below.set x _).mono hg1), HB2.out _, by rw [Hid, hR.out, Ht.out, paintM, HX.out]; simp⟩
      case measure => simp [intOf]; omega
    · obtain rfl : k = xs.length := by omega
      clear hlt hk
      have hfin : Hid (cs = ofGo xs 0 n) := by
        have h1 := hR.out
        rw [HP.out, List.drop_length, paintM] at h1
        exact h1.symm
      have ht := htx a cs cap wr hownr.at (by omega) (by have := HN.out; omega)
      rw [hcs] at ht
      clear hcs
      go_wp2_with fail
      refine ht.mono ?_
      rintro e w5 ⟨rfl, hb5⟩
      go_wp2_with fail
      go_ret2
      exact ⟨by rw [HM.out, HOK.out, hfin.out]; rfl, hbr.trans (hb5.mono hbr.size)⟩
end Go.Proofs.Yteajhjiibenenaa
