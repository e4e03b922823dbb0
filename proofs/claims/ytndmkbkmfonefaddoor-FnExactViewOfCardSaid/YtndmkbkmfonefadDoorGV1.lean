/- V1, V2, V4, V5, V3, V6, laid as one text. -/
import Derived.Test.YtndmkbkmfonefadDoorGY8
import Derived.Test.YtndmkbkmfonefadDoorT7
import Derived.Outline
import Derived.Test.YtndmkbkmfonefadDoorGYB
import Derived.Test.YtndmkbkmfonefadDoorYF
import Derived.Laws.Rows
import Derived.Laws.Tables
import Derived.Laws.CopyRow

/- Clicks: whether a list is one of clicks, by the model. -/
namespace Go.Proofs.YtndmkbkmfonefadDoor
open Go.RowKit

/-- Are there a board and clicks? -/
def clkOK (l : List UInt8) (xs : List Int) : Bool := boGoodM l && decide (xs.length ≤ 64) && xs.all (freeOK l)
theorem clk_yes {l : List UInt8} {xs : List Int} (h : clkOK l xs = true) : boGoodM l = true ∧ xs.length ≤ 64 ∧ ∀ x ∈ xs, freeOK l x = true := by
  simp only [clkOK, Bool.and_eq_true, decide_eq_true_eq, List.all_eq_true] at h
  exact ⟨h.1.1, h.1.2, h.2⟩
theorem clk_short {l : List UInt8} {xs : List Int} (h1 : boGoodM l = true) (h2 : xs.length ≤ 64) : clkOK l xs = xs.all (freeOK l) := by
  simp [clkOK, h1, h2]

set_option maxRecDepth 100000 in
set_option maxHeartbeats 800000 in
theorem opClicks_any (l : List UInt8) (xs : List Int) (a : Option Addr) (cap : Nat) (w : World) (hl : l.length ≤ 1048576) (hat : At w a (ints xs)) (hx : xs.length ≤ 1048576) :
    Calls Tryd.prog 37 #[.string ⟨l.toArray⟩, .slice a xs.length cap] w fun e w' => e = .returned (.bool (clkOK l xs)) ∧ Below w.heap.size w w' := by
  cases hg : boGoodM l with
  | false =>
    have HV : Hid (clkOK l xs = false) := by rw [Hid, clkOK, hg]; rfl
    have hgo := fun w => boGood_any l w hl
    rw [hg] at hgo
    clear hg
    go_enter Tryd.func37, Tryd.ntmps37
    go_wp2_with fail
    refine (hgo _).mono ?_
    rintro e w1 ⟨rfl, hb1⟩
    go_wp2_with fail
    go_ret
    exact ⟨by rw [HV.out]; rfl, hb1⟩
  | true =>
    have hgo := fun w => boGood_any l w hl
    rw [hg] at hgo
    by_cases h64 : xs.length ≤ 64
    · have HV := Lib.hid (clk_short hg h64)
      clear hg
      go_enter Tryd.func37, Tryd.ntmps37
      go_wp2_with fail
      refine (hgo _).mono ?_
      rintro e w1 ⟨rfl, hb1⟩
      go_wp2_with fail
      go_loopw [17] (fun i wr => ∃ k : Nat, k ≤ xs.length ∧ i = .int .i64 k ∧ Below w.heap.size w wr ∧ Hid (xs.all (freeOK l) = (xs.drop k).all (freeOK l))) (fun i _ => xs.length - (intOf i).toNat)
      case atStart => exact ⟨0, Nat.zero_le _, rfl, hb1, by simp [Hid]⟩
      case round =>
        obtain ⟨k, hk, rfl, hbr, hR⟩ := hrel
        by_cases hlt : k < xs.length
        · have Ht := Lib.hid (List.drop_eq_getElem_cons hlt)
          obtain ⟨b, off, he, hc⟩ := ints_at (hat.below hat (Nat.le_refl _) hbr) k hlt
          subst he
          have hof := fun w => opFree_any l xs[k] w hl
          cases hf : freeOK l xs[k] with
          | true =>
            rw [hf] at hof
            have HF := Lib.hid hf
            clear hf
            go_wp2_with fail
            refine (hof _).mono ?_
            rintro e w2 ⟨rfl, hb2⟩
            go_wp2_with fail
            go_roundw
            case rel => exact ⟨k + 1, by omega, by go_num, hbr.trans (hb2.mono hbr.size), by rw [Hid, hR.out, Ht.out, List.all_cons, HF.out]; rfl⟩
            case measure => simp [intOf]; omega
          | false =>
            rw [hf] at hof
            have HF := Lib.hid hf
            clear hf
            go_wp2_with fail
            refine (hof _).mono ?_
            rintro e w2 ⟨rfl, hb2⟩
            go_wp2_with fail
            go_ret
            exact ⟨by rw [HV.out, hR.out, Ht.out, List.all_cons, HF.out]; rfl, hbr.trans (hb2.mono hbr.size)⟩
        · obtain rfl : k = xs.length := by omega
          go_wp2_with fail
          go_ret
          exact ⟨by rw [HV.out, hR.out]; simp, hbr⟩
    · have HV : Hid (clkOK l xs = false) := by rw [Hid, clkOK, hg]; simp [h64]
      have h64' : 64 < xs.length := by omega
      clear hg h64
      go_enter Tryd.func37, Tryd.ntmps37
      go_wp2_with fail
      refine (hgo _).mono ?_
      rintro e w1 ⟨rfl, hb1⟩
      go_wp2_with fail
      go_ret
      exact ⟨by rw [HV.out]; rfl, hb1⟩
end Go.Proofs.YtndmkbkmfonefadDoor

/- Cells open behind clicks, and the clicks that open nothing new: the model of it. -/
namespace Go.Proofs.YtndmkbkmfonefadDoor
open Go.RowKit

/-- What clicks make open, one after another; and the indices of those that open nothing new. -/
def aftL (cells : List UInt8) (W : Nat) (L : List Nat) : List Nat → List Nat
  | [] => L
  | c :: r => aftL cells W (L ++ opM cells W c) r
def aftM (cells : List UInt8) (W : Nat) (cs : List Nat) : List Nat := sortM cells.length (aftL cells W [] cs)
def sameB (cells : List UInt8) (W : Nat) (L : List Nat) (c : Nat) : Bool := (sortM cells.length (L ++ opM cells W c)).length == (sortM cells.length L).length
def needGo (cells : List UInt8) (W : Nat) (L : List Nat) (k : Nat) : List Nat → List Nat
  | [] => []
  | c :: r => (if sameB cells W L c = true then [k] else []) ++ needGo cells W (L ++ opM cells W c) (k + 1) r
def needM (cells : List UInt8) (W : Nat) (cs : List Nat) : List Nat := needGo cells W [] 0 cs

theorem zGo_mem (cells : List UInt8) (W : Nat) (s : UInt8) (x : Nat) : ∀ (m k : Nat), k ≤ x → x < k + m → cells.getD x 0 = s → numM cells W x = 0 → x ∈ zGo cells W s k m
  | 0, k, h1, h2, _, _ => by omega
  | m + 1, k, h1, h2, h3, h4 => by
    unfold zGo
    by_cases e : k = x
    · subst e; rw [if_pos ⟨h3, h4⟩]; exact List.mem_cons_self
    · have ih := zGo_mem cells W s x m (k + 1) (by omega) (by omega) h3 h4
      split
      · exact List.mem_cons_of_mem _ ih
      · exact ih
theorem not_zero {cells : List UInt8} {W c : Nat} (hc : c < cells.length) (hs : cells.getD c 0 = 46) (h : c ∉ zerosM cells W) : zeroB cells W c = false := by
  by_cases z : numM cells W c = 0
  · exact absurd (zGo_mem cells W 46 c cells.length 0 (by omega) (by omega) hs z) h
  · simp [zeroB, z]
theorem opM_lt (cells : List UInt8) (W c : Nat) : ∀ x ∈ opM cells W c, x < cells.length := by
  intro x hx
  simp only [opM, sortM, List.mem_filter, List.mem_range] at hx
  exact hx.1
theorem opM_alone {cells : List UInt8} {W c : Nat} (hc : c < cells.length) (hz : zeroB cells W c = false) (x : Nat) : x ∈ opM cells W c ↔ x = c := by
  rw [opM, mem_sortM (bfs_lt (nearM_lts W cells.length) hc), bfs0_mem (nearM_lts W cells.length) hc]
  constructor
  · intro h
    induction h with
    | start => rfl
    | step h1 h2 h3 ih => subst ih; rw [hz] at h2; cases h2
  · rintro rfl; exact .start
theorem aft_lt {cells : List UInt8} {W : Nat} {L : List Nat} (hL : ∀ x ∈ L, x < cells.length) (c : Nat) : ∀ x ∈ L ++ opM cells W c, x < cells.length := by
  intro x hx
  rcases List.mem_append.1 hx with h | h
  · exact hL x h
  · exact opM_lt cells W c x h
/-- A click on an open cell that is no zero. -/
theorem skip_same {cells : List UInt8} {W c : Nat} {L : List Nat} (hc : c < cells.length) (hz : zeroB cells W c = false) (h : c ∈ L) : sortM cells.length (L ++ opM cells W c) = sortM cells.length L := by
  apply sortM_congr
  intro x
  rw [List.mem_append, opM_alone hc hz]
  exact ⟨fun q => by rcases q with q | rfl <;> assumption, .inl⟩
theorem sort_mem {n : Nat} {L : List Nat} (hL : ∀ x ∈ L, x < n) {x : Nat} (h : x ∈ sortM n L) (t : List Nat) : sortM n (L ++ x :: t) = sortM n (L ++ t) := by
  apply sortM_congr
  intro y
  have := (mem_sortM hL x).1 h
  simp only [List.mem_append, List.mem_cons]
  constructor
  · rintro (q | rfl | q)
    · exact .inl q
    · exact .inl this
    · exact .inr q
  · rintro (q | q)
    · exact .inl q
    · exact .inr (.inr q)
theorem need_len (cells : List UInt8) (W : Nat) : ∀ (r : List Nat) (L : List Nat) (k : Nat), (needGo cells W L k r).length ≤ r.length
  | [], _, _ => by simp [needGo]
  | c :: r, L, k => by
    have := need_len cells W r (L ++ opM cells W c) (k + 1)
    unfold needGo; split <;> simp <;> omega
end Go.Proofs.YtndmkbkmfonefadDoor

/- Cells open behind clicks: the program, walked. -/
namespace Go.Proofs.YtndmkbkmfonefadDoor
open Go.RowKit

/-- A list of clicks as the program keeps it: 64 cells and how many. -/
def lst (cs : List Nat) : Array Value := ((nats cs ++ List.replicate (64 - cs.length) (Value.int .i64 0)) ++ [Value.int .i64 (cs.length : Int)]).toArray
theorem lst_size {cs : List Nat} (h : cs.length ≤ 64) : (lst cs).size = 65 := by simp [lst]; omega
theorem lst_at {cs : List Nat} (k : Nat) (hk : k < cs.length) : (lst cs)[k]? = some (.int .i64 (cs[k] : Int)) := by
  simp only [lst, List.getElem?_toArray]
  rw [List.getElem?_append_left (by simp; omega), List.getElem?_append_left (by simpa using hk)]
  simp [nats, ints, hk]
theorem lst_count {cs : List Nat} (h : cs.length ≤ 64) : (lst cs)[64]? = some (.int .i64 (cs.length : Int)) := by
  simp only [lst, List.getElem?_toArray]
  rw [List.getElem?_append_right (by simp; omega)]
  have e : 64 - (nats cs ++ List.replicate (64 - cs.length) (Value.int .i64 0)).length = 0 := by simp; omega
  rw [e]; rfl

set_option maxRecDepth 100000 in
set_option maxHeartbeats 1600000 in
theorem openAfter_any (W H : Nat) (a : Option Addr) (cells : List UInt8) (cap : Nat) (cs : List Nat) (w : World) (hat : At w a (byts cells)) (h64 : cells.length ≤ 64) (hcs : cs.length ≤ 64) (hW : 0 < cs.length → 1 ≤ W) (hc : ∀ c ∈ cs, c < cells.length) :
    Calls Tryd.prog 41 #[.agg #[.int .i64 W, .int .i64 H, .slice a cells.length cap, .bool false], .agg (lst cs)] w fun e w' => ∃ (b : Nat) (PL : List Nat), e = .returned (.map (some b)) ∧ Marks w' b PL ∧ (∀ x, x ∈ PL ↔ x ∈ aftL cells W [] cs) ∧ w.heap.size ≤ b ∧ Below w.heap.size w w' := by
  have hls := Lib.hid (lst_size hcs)
  have hlc := lst_count hcs
  have hla := fun k hk => lst_at (cs := cs) k hk
  have hmm := @run_makeMap Tryd.prog
  have HC := Lib.hid hc
  have HW := Lib.hid hW
  have HLC := Lib.hid hlc
  have HLA := Lib.hid hla
  generalize hlq : lst cs = lq at *
  have HLQ := Lib.hid hlq
  clear hlq hc hW hlc hla
  go_enter Tryd.func41, Tryd.ntmps41
  go_upto_region 2 with fail
  have hb0 : Below w.heap.size w (((w.alloc (.cells #[.int .i64 W, .int .i64 H, .slice a cells.length cap, .bool false] 45)).alloc (.cells lq 48)).alloc (.map #[] 0)) := (((Below.refl _ _).alloc (Nat.le_refl _) _).alloc (by simp) _).alloc (by simp; omega) _
  have hs0 : (((w.alloc (.cells #[.int .i64 W, .int .i64 H, .slice a cells.length cap, .bool false] 45)).alloc (.cells lq 48)).alloc (.map #[] 0)).heap.size = w.heap.size + 3 := by simp
  have hM0 : Marks (((w.alloc (.cells #[.int .i64 W, .int .i64 H, .slice a cells.length cap, .bool false] 45)).alloc (.cells lq 48)).alloc (.map #[] 0)) (w.heap.size + 1 + 1) [] := by
    have := Marks.made ((w.alloc (.cells #[.int .i64 W, .int .i64 H, .slice a cells.length cap, .bool false] 45)).alloc (.cells lq 48))
    simpa using this
  have hG0 : (((w.alloc (.cells #[.int .i64 W, .int .i64 H, .slice a cells.length cap, .bool false] 45)).alloc (.cells lq 48)).alloc (.map #[] 0)).heap[w.heap.size]? = some (.cells #[.int .i64 W, .int .i64 H, .slice a cells.length cap, .bool false] 45 (0, 0)) := by
    have h1 : Below (w.heap.size + 1) (w.alloc (.cells #[.int .i64 W, .int .i64 H, .slice a cells.length cap, .bool false] 45)) (((w.alloc (.cells #[.int .i64 W, .int .i64 H, .slice a cells.length cap, .bool false] 45)).alloc (.cells lq 48)).alloc (.map #[] 0)) := ((Below.refl _ _).alloc (by simp) _).alloc (by simp) _
    rw [h1.block _ (by omega)]
    exact heap_alloc_new w _
  have hG1 : (((w.alloc (.cells #[.int .i64 W, .int .i64 H, .slice a cells.length cap, .bool false] 45)).alloc (.cells lq 48)).alloc (.map #[] 0)).heap[w.heap.size + 1]? = some (.cells lq 48 (0, 0)) := by
    have h1 : Below (w.heap.size + 2) ((w.alloc (.cells #[.int .i64 W, .int .i64 H, .slice a cells.length cap, .bool false] 45)).alloc (.cells lq 48)) (((w.alloc (.cells #[.int .i64 W, .int .i64 H, .slice a cells.length cap, .bool false] 45)).alloc (.cells lq 48)).alloc (.map #[] 0)) := (Below.refl _ _).alloc (by simp) _
    rw [h1.block _ (by omega)]
    have h2 := heap_alloc_new (w.alloc (.cells #[.int .i64 W, .int .i64 H, .slice a cells.length cap, .bool false] 45)) (.cells lq 48)
    simpa using h2
  have hat0 := hat.later rfl hb0
  generalize ((w.alloc (.cells #[.int .i64 W, .int .i64 H, .slice a cells.length cap, .bool false] 45)).alloc (.cells lq 48)).alloc (.map #[] 0) = w0 at *
  have hk64 := cell_of_block hG1 64
  rw [HLC.out] at hk64
  have HG0 := Lib.hid hG0
  have HG1 := Lib.hid hG1
  have HS0 := Lib.hid hs0
  have HB0 := Lib.hid hb0
  clear hG0 hG1 hs0 hb0 hmm
  go_wp2_with fail
  go_loopw [10] (fun i wr => ∃ (k : Nat) (PL AL : List Nat), k ≤ cs.length ∧ i = .int .i64 k ∧ Marks wr (w.heap.size + 1 + 1) PL ∧ PL.length ≤ 64 * k ∧ Touch (w.heap.size + 1 + 1) w0 wr ∧ Hid (∀ x, x ∈ PL ↔ x ∈ AL) ∧ Hid (Closed (nearM W cells.length) (zeroB cells W) PL) ∧ Hid (aftL cells W [] cs = aftL cells W AL (cs.drop k))) (fun i _ => cs.length - (intOf i).toNat)
  case atStart => exact ⟨0, [], [], Nat.zero_le _, rfl, hM0, by simp, Touch.refl _ _, by simp [Hid], closed_nil, by simp [Hid]⟩
  case round =>
    obtain ⟨k, PL, AL, hk, rfl, hM, hpl, ht, hPA, hCl, hA⟩ := hrel
    have hGr0 : wr.heap[w.heap.size]? = some (.cells #[.int .i64 W, .int .i64 H, .slice a cells.length cap, .bool false] 45 (0, 0)) := by rw [ht.block _ (by have := HS0.out; omega) (by simp; omega)]; exact HG0.out
    have hGr1 : wr.heap[w.heap.size + 1]? = some (.cells lq 48 (0, 0)) := by rw [ht.block _ (by have := HS0.out; omega) (by simp)]; exact HG1.out
    have hf0 := cell_of_block hGr0 0
    have hf1 := cell_of_block hGr0 1
    have hf2 := cell_of_block hGr0 2
    have hf3 := cell_of_block hGr0 3
    simp at hf0 hf1 hf2 hf3
    have hatr := hat0.touch ht hM0.nocells
    by_cases hlt : k < cs.length
    · have Ht := Lib.hid (List.drop_eq_getElem_cons hlt)
      have hck := HC.out _ (List.getElem_mem hlt)
      have hkc := cell_of_block hGr1 k
      rw [HLA.out k hlt] at hkc
      have i64 : (k : Int) < 64 := by omega
      go_wp2_with fail
      go_still_tail 6, (by kernel_rfl)
      change wpList _ _ _ _ _ wr.drew
      have hMd : Marks wr.drew (w.heap.size + 1 + 1) PL := hM
      have hatd : At wr.drew a (byts cells) := hatr.drew
      have htd : Touch (w.heap.size + 1 + 1) w0 wr.drew := ht.trans (Touch.of (⟨rfl, rfl, rfl, Nat.le_refl _, fun _ _ => rfl⟩))
      have hw1 : 1 ≤ W := HW.out (by omega)
      have hbl := bfs_len (L0 := PL) (zero := zeroB cells W) (nearM_lts W cells.length) hck
      have hmem : Hid (∀ x, x ∈ PL ++ bfs (nearM W cells.length) (zeroB cells W) PL cells.length 0 [cs[k]] ↔ x ∈ AL ++ opM cells W cs[k]) := fun x => by
        rw [click_mem cells W cs[k] PL hck hCl.out x, List.mem_append, List.mem_append, hPA.out x]
      have hcl2 : Hid (Closed (nearM W cells.length) (zeroB cells W) (PL ++ bfs (nearM W cells.length) (zeroB cells W) PL cells.length 0 [cs[k]])) := bfs_closed (nearM_lts W cells.length) hck hCl.out
      have hA2 : Hid (aftL cells W [] cs = aftL cells W (AL ++ opM cells W cs[k]) (cs.drop (k + 1))) := by rw [Hid, hA.out, Ht.out, aftL]
      have hpl2 : (PL ++ bfs (nearM W cells.length) (zeroB cells W) PL cells.length 0 [cs[k]]).length ≤ 64 * (k + 1) := by rw [List.length_append]; omega
      generalize wr.drew = wd at *
      clear hGr0 hGr1 hf0 hf1 hf2 hf3 hkc hM hatr ht
      go_wp2_with fail
      refine (click_any W H a cells cap (w.heap.size + 1 + 1) PL cs[k] _ hatd hMd (by omega) hw1 h64 hck).mono ?_
      rintro e w2 ⟨rfl, hM2, ht2⟩
      have ht02 := htd.trans ht2
      clear hMd hatd htd ht2
      go_wp2_with fail
      go_roundw
      case rel => exact ⟨k + 1, _, _, by omega, by go_num, hM2, hpl2, ht02, hmem, hcl2, hA2⟩
      case measure => simp [intOf]; omega
    · obtain rfl : k = cs.length := by omega
      clear hlt
      have hAe : Hid (aftL cells W [] cs = AL) := by rw [Hid, hA.out, List.drop_length]; rfl
      go_wp2_with fail
      go_ret
      exact ⟨_, PL, rfl, hM, fun x => by rw [hAe.out]; exact hPA.out x, by omega, HB0.out.trans (ht.below (by omega) (by have := HS0.out; omega))⟩
end Go.Proofs.YtndmkbkmfonefadDoor

/- Clicks read by the program, walked. -/
namespace Go.Proofs.YtndmkbkmfonefadDoor
open Go.RowKit

theorem blockAway {w : World} {g b : Nat} (h : b ≠ g) (j : Nat) (v : Value) : (w.setCell ⟨g, j, none⟩ v).heap[b]? = w.heap[b]? := by
  simp [World.setCell, Array.getElem?_modify, Ne.symm h]

set_option maxRecDepth 100000 in
set_option maxHeartbeats 800000 in
theorem readClicks_bad (l : List UInt8) (xs : List Int) (a : Option Addr) (cap : Nat) (w : World) (hM : HasMax w) (hl : l.length ≤ 1048576) (_hat : At w a (ints xs)) (hx : xs.length ≤ 1048576) (hg : boGoodM l = false ∨ (boGoodM l = true ∧ 64 < xs.length)) :
    Calls Tryd.prog 39 #[.string ⟨l.toArray⟩, .slice a xs.length cap] w fun e w' => e = .returned (.tuple #[.agg #[.int .i64 0, .int .i64 0, .slice none 0 0, .bool false], .agg (lst []), .bool false]) ∧ Below w.heap.size w w' := by
  have hz : ∀ w : World, (zeroValue 48).run Tryd.prog w = .ok (.agg (lst [])) w := fun w => by kernel_rfl
  have hbd : Tryd.prog.built 48 [] = some (lst []) := by kernel_rfl
  have hls : (lst []).size = 65 := rfl
  have hrb := fun w h => readBoard_any l w h hl
  generalize gW l = W at *
  generalize gH l = H at *
  generalize gCells l = cells at *
  generalize boGoodM l = g at *
  have hsz : (Tryd.prog.info? 48).map (·.size) = some (lst []).size := by kernel_rfl
  have hone : (lst []).all (·.oneCell') = true := by kernel_rfl
  generalize lst [] = z0 at *
  go_enter Tryd.func39, Tryd.ntmps39
  go_wp2_with fail
  have hb0 : Below w.heap.size w ((w.alloc (.cells #[.int .i64 0, .int .i64 0, .slice none 0 0, .bool false] 45)).alloc (.cells z0 48)) := ((Below.refl _ _).alloc (Nat.le_refl _) _).alloc (by simp) _
  have hs0 : ((w.alloc (.cells #[.int .i64 0, .int .i64 0, .slice none 0 0, .bool false] 45)).alloc (.cells z0 48)).heap.size = w.heap.size + 2 := by simp
  have hR4 : ((w.alloc (.cells #[.int .i64 0, .int .i64 0, .slice none 0 0, .bool false] 45)).alloc (.cells z0 48)).heap[w.heap.size]? = some (.cells #[.int .i64 0, .int .i64 0, .slice none 0 0, .bool false] 45 (0, 0)) := by
    have h1 : Below (w.heap.size + 1) (w.alloc (.cells #[.int .i64 0, .int .i64 0, .slice none 0 0, .bool false] 45)) ((w.alloc (.cells #[.int .i64 0, .int .i64 0, .slice none 0 0, .bool false] 45)).alloc (.cells z0 48)) := (Below.refl _ _).alloc (by simp) _
    rw [h1.block _ (by omega)]
    exact heap_alloc_new w _
  have hR5 : ((w.alloc (.cells #[.int .i64 0, .int .i64 0, .slice none 0 0, .bool false] 45)).alloc (.cells z0 48)).heap[w.heap.size + 1]? = some (.cells z0 48 (0, 0)) := by
    have h2 := heap_alloc_new (w.alloc (.cells #[.int .i64 0, .int .i64 0, .slice none 0 0, .bool false] 45)) (.cells z0 48)
    simpa using h2
  generalize (w.alloc (.cells #[.int .i64 0, .int .i64 0, .slice none 0 0, .bool false] 45)).alloc (.cells z0 48) = w0 at *
  refine (hrb _ (hM.later hb0)).mono ?_
  rintro e w1 ⟨a1, c1, rfl, hown1, hb1⟩
  go_upto_region 2 with fail
  have s1 := hb1.size
  have hb2 : Below w0.heap.size w0 (w1.alloc (.cells #[.int .i64 W, .int .i64 H, .slice a1 cells.length c1, .bool false] 45)) := hb1.alloc s1 _
  generalize w1.alloc (.cells #[.int .i64 W, .int .i64 H, .slice a1 cells.length c1, .bool false] 45) = w2 at *
  have hR4' := (hb2.block _ (by omega)).trans hR4
  have hR5' := (hb2.block _ (by omega)).trans hR5
  have hq0 := frozen_of_block hR4' 0
  have hq1 := frozen_of_block hR4' 1
  have hq2 := frozen_of_block hR4' 2
  have hq3 := frozen_of_block hR4' 3
  have hf0 := cell_of_block hR4' 0
  have hf1 := cell_of_block hR4' 1
  have hf2 := cell_of_block hR4' 2
  have hf3 := cell_of_block hR4' 3
  simp at hf0 hf1 hf2 hf3
  have HR4 := Lib.hid hR4'
  have HR5 := Lib.hid hR5'
  have hb02 : Below w.heap.size w w2 := hb0.trans (hb2.mono (by omega))
  clear hR4 hR5 hR4' hR5' hown1 hb1 hb0 hb2 hrb
  have hne : w.heap.size + 1 ≠ w.heap.size := by omega
  have hst : ∀ v0 v1 v2, ((((w2.setCell ⟨w.heap.size, 0, none⟩ v0).setCell ⟨w.heap.size, 1, none⟩ v1).setCell ⟨w.heap.size, 2, none⟩ v2).setCell ⟨w.heap.size, 3, none⟩ (.bool false)).heap[w.heap.size + 1]? = some (.cells z0 48 (0, 0)) := fun v0 v1 v2 =>
    (blockAway hne 3 _).trans ((blockAway hne 2 _).trans ((blockAway hne 1 _).trans ((blockAway hne 0 _).trans HR5.out)))
  have hsr := fun v0 v1 v2 => setRow_self _ (w.heap.size + 1) z0 _ _ (hst v0 v1 v2)
  have hsc : ∀ v0 v1 v2, (storeCells ⟨w.heap.size + 1, 0, none⟩ z0.toList).run Tryd.prog ((((w2.setCell ⟨w.heap.size, 0, none⟩ v0).setCell ⟨w.heap.size, 1, none⟩ v1).setCell ⟨w.heap.size, 2, none⟩ v2).setCell ⟨w.heap.size, 3, none⟩ (.bool false)) = .ok () ((((w2.setCell ⟨w.heap.size, 0, none⟩ v0).setCell ⟨w.heap.size, 1, none⟩ v1).setCell ⟨w.heap.size, 2, none⟩ v2).setCell ⟨w.heap.size, 3, none⟩ (.bool false)) := fun v0 v1 v2 => by
    rw [run_storeCells_at Tryd.prog (w.heap.size + 1) 0 48 z0.toList 0 z0 _ (hst v0 v1 v2) (by simp) (fun v hv => by rw [Array.all_eq_true_iff_forall_mem] at hone; exact hone v (Array.mem_toList_iff.1 hv))]
    have e : (List.take (0 + 0) z0.toList ++ z0.toList ++ List.drop (0 + 0 + z0.toList.length) z0.toList).toArray = z0 := by
      rw [show List.drop (0 + 0 + z0.toList.length) z0.toList = [] from List.drop_eq_nil_of_le (by simp)]; simp
    rw [e]; exact congrArg (Result.ok ()) (hsr v0 v1 v2)
  have HST := Lib.hid hst
  clear hst hsr
  rcases hg with rfl | ⟨rfl, h64⟩
  all_goals
   go_wp2_with fail
   have b1 := block_set HR4.out 0 (.int .i64 0)
   have b2 := block_set b1 1 (.int .i64 0)
   have b3 := block_set b2 2 (.slice none 0 0)
   have b4 := block_set b3 3 (.bool false)
   simp at b4
   have hsz4 : (Tryd.prog.info? 45).map (·.size) = some 4 := by kernel_rfl
   have hlv4 := run_loadVar_row (P := Tryd.prog) _ w.heap.size 45 45 _ (0, 0) _ b4 Tryd.underlying45 rfl hsz4
   have hlv := run_loadVar_row (P := Tryd.prog) _ (w.heap.size + 1) 48 48 z0 (0, 0) _ (HST.out (.int .i64 0) (.int .i64 0) (.slice none 0 0)) Tryd.underlying48 rfl hsz
   clear b1 b2 b3 b4
   refine bodyPost_ret (v := .tuple #[.agg #[.int .i64 0, .int .i64 0, .slice none 0 0, .bool false], .agg z0, .bool false]) ?_ rfl ⟨rfl, ?_⟩
   · simp [results, Tryd.results39, asAddr, hlv4, hlv]
   · exact hb02.trans ((((Below.set 0 _).trans (Below.set 1 _)).trans (Below.set 2 _)).trans (Below.set 3 _))
end Go.Proofs.YtndmkbkmfonefadDoor

/- Cells open behind clicks: the model, walked. -/
namespace Go.Proofs.YtndmkbkmfonefadDoor
open Go.RowKit

set_option maxRecDepth 100000 in
set_option maxHeartbeats 3200000 in
theorem opAfter_any (l : List UInt8) (W H : Nat) (cells : List UInt8) (cs : List Nat) (a : Option Addr) (cap : Nat) (w : World) (hl : l.length ≤ 1048576) (hB : Brd l W H cells) (hat : At w a (nats cs)) (hx : cs.length ≤ 64) (hc : ∀ c ∈ cs, c < cells.length) (hs : ∀ c ∈ cs, cells.getD c 0 = 46) :
    Calls Tryd.prog 38 #[.string ⟨l.toArray⟩, .slice a cs.length cap] w fun e w' => ∃ a1 c1 a2 c2, e = .returned (.tuple #[.slice a1 (aftM cells W cs).length c1, .slice a2 (needM cells W cs).length c2]) ∧
      Owns w' w.heap.size 3 (.slice a1 (aftM cells W cs).length c1) (nats (aftM cells W cs)) ∧ Owns w' w.heap.size 3 (.slice a2 (needM cells W cs).length c2) (nats (needM cells W cs)) ∧ Below w.heap.size w w' := by
  have hn64 := hB.n64
  have hzs := fun w => opZeros_any l W H cells w hl hB
  have hoc := fun c w h => opClick_any l W H cells c w hl hB h
  have HZS := Lib.hid hzs
  have HOC := Lib.hid hoc
  have HC := Lib.hid hc
  have HS := Lib.hid hs
  have HAM : Hid (aftM cells W cs = sortM cells.length (aftL cells W [] cs)) := rfl
  have HNM : Hid (needM cells W cs = needGo cells W [] 0 cs) := rfl
  clear hc hs hzs hoc hB
  go_enter Tryd.func38, Tryd.ntmps38
  go_wp2_with fail
  go_loopw [6, 7, 15] (fun v6 v7 i wr => ∃ (k : Nat) (L nd : List Nat), k ≤ cs.length ∧ i = .int .i64 k ∧ Owns wr w.heap.size 3 v6 (nats (sortM cells.length L)) ∧ Owns wr w.heap.size 3 v7 (nats nd) ∧ Apart v7 v6 ∧ Below w.heap.size w wr ∧ nd.length ≤ k ∧ Hid (∀ x ∈ L, x < cells.length) ∧ Hid (aftL cells W [] cs = aftL cells W L (cs.drop k)) ∧ Hid (needGo cells W [] 0 cs = nd ++ needGo cells W L k (cs.drop k))) (fun _ _ i _ => cs.length - (intOf i).toNat)
  case atStart =>
    exact ⟨0, [], [], Nat.zero_le _, rfl, by rw [show sortM cells.length [] = [] by simp [sortM]]; exact Owns.nil _ _ _, Owns.nil _ _ _, by intro k hk; simp [Value.ownBlock] at hk, Below.refl _ _, by simp, by simp [Hid], by simp [Hid], by simp [Hid]⟩
  case round =>
    obtain ⟨k, L, nd, hk, rfl, hown6, hown7, hap, hbr, hnd, hL, hA, hN⟩ := hrel
    by_cases hlt : k < cs.length
    · have Ht := Lib.hid (List.drop_eq_getElem_cons hlt)
      have hck := HC.out _ (List.getElem_mem hlt)
      have hsk := HS.out _ (List.getElem_mem hlt)
      obtain ⟨b, off, he, hcx⟩ := nats_at (hat.below hat (Nat.le_refl _) hbr) k hlt
      subst he
      obtain ⟨c, hcc⟩ : ∃ c, cs[k] = c := ⟨_, rfl⟩
      rw [hcc] at hck hsk hcx
      have HCC := Lib.hid hcc
      have HSK := Lib.hid hsk
      clear hcc hsk
      obtain ⟨a6, c6, hv6⟩ := hown6.shape
      simp only [nats_length] at hv6
      subst hv6
      have hsl := sortM_le cells.length L
      have hHas := l1HasN_any (sortM cells.length L) c a6 c6 wr hown6.at (by omega)
      have s0 := hbr.size
      have hAs : Hid (aftL cells W [] cs = aftL cells W (L ++ opM cells W c) (cs.drop (k + 1))) := by rw [Hid, hA.out, Ht.out, HCC.out, aftL]
      have hNs : Hid (needGo cells W [] 0 cs = nd ++ ((if sameB cells W L c = true then [k] else []) ++ needGo cells W (L ++ opM cells W c) (k + 1) (cs.drop (k + 1)))) := by rw [Hid, hN.out, Ht.out, HCC.out, needGo]
      have hL2 : Hid (∀ x ∈ L ++ opM cells W c, x < cells.length) := aft_lt hL.out c
      have hkey : (c ∈ sortM cells.length L ∧ c ∉ zerosM cells W) ∨ (c ∈ sortM cells.length L ∧ c ∈ zerosM cells W) ∨ c ∉ sortM cells.length L := by
        by_cases h1 : c ∈ sortM cells.length L
        · by_cases h2 : c ∈ zerosM cells W
          · exact .inr (.inl ⟨h1, h2⟩)
          · exact .inl ⟨h1, h2⟩
        · exact .inr (.inr h1)
      rcases hkey with ⟨hin, hnz⟩ | hkey
      · -- an open cell that is no zero
        rw [show decide (c ∈ sortM cells.length L) = true by simpa using hin] at hHas
        have hss : sortM cells.length (L ++ opM cells W c) = sortM cells.length L := skip_same hck (not_zero hck HSK.out hnz) ((mem_sortM hL.out c).1 hin)
        have hsb : Hid (sameB cells W L c = true) := by rw [Hid, sameB, hss]; simp
        have hown6' : Owns wr w.heap.size 3 (.slice a6 (sortM cells.length L).length c6) (nats (sortM cells.length (L ++ opM cells W c))) := by rw [hss]; exact hown6
        have HOW := Lib.hid hown6'
        have hzl := zerosM_le cells W
        have HNZ : Hid (decide (c ∈ zerosM cells W) = false) := by simpa [Hid] using hnz
        have HH := Lib.hid hHas
        clear hin hnz hss hHas hown6'
        go_wp2_with fail
        refine HH.out.mono ?_
        rintro e w2 ⟨rfl, rfl⟩
        go_wp2_with fail
        refine (HZS.out _).mono ?_
        rintro e w3 ⟨a3, c3, rfl, hown3, hb3⟩
        have hz3 := l1HasN_any (zerosM cells W) c a3 c3 w3 hown3.at (by omega)
        rw [HNZ.out] at hz3
        have hown7' := hown7.later hb3
        have hown6' := HOW.out.later hb3
        have hbr3 := hbr.trans (hb3.mono hbr.size)
        have s3 := hb3.size
        clear hown3 hown7 hown6 hbr hb3
        go_wp2_with fail
        refine hz3.mono ?_
        rintro e w3' ⟨rfl, rfl⟩
        go_wp2_with (at_builtin; refine wpList_app1K rfl _ _ _ rfl w.heap.size _ _ _ elemInt _ _ _ _ rfl rfl rfl hown7' rfl (by simp; omega) (by omega) (by simp; omega) ?_; intro v9 w9 hown9 hb9 hs9 hK9)
        rw [nats_snoc] at hown9
        obtain ⟨hown69, hap9⟩ := hK9 _ _ _ _ hown6' hap
        have hNx : Hid (needGo cells W [] 0 cs = (nd ++ [k]) ++ needGo cells W (L ++ opM cells W c) (k + 1) (cs.drop (k + 1))) := by rw [Hid, hNs.out, if_pos hsb.out, List.append_assoc]
        have hbr9 := hbr3.trans hb9
        have hnd9 : (nd ++ [k]).length ≤ k + 1 := by simp; omega
        clear hK9 hown6' hown7' hbr3 hb9 hap hnd
        go_wp2_with fail
        go_roundw
        case rel => exact ⟨k + 1, L ++ opM cells W c, nd ++ [k], by omega, by go_num, hown69, hown9, hap9, hbr9, hnd9, hL2, hAs, hNx⟩
        case measure => simp [intOf]; omega
      · -- the click's cells are put to those that are open
        have hzl := zerosM_le cells W
        rcases hkey with ⟨hin, hz⟩ | hin
        case' inl =>
          rw [show decide (c ∈ sortM cells.length L) = true by simpa using hin] at hHas
          have HZ : Hid (decide (c ∈ zerosM cells W) = true) := by simpa [Hid] using hz
          have HH := Lib.hid hHas
          clear hin hz hHas
          go_wp2_with fail
          refine HH.out.mono ?_
          rintro e w2 ⟨rfl, rfl⟩
          go_wp2_with fail
          refine (HZS.out _).mono ?_
          rintro e w3 ⟨a3, c3, rfl, hown3, hb3⟩
          have hz3 := l1HasN_any (zerosM cells W) c a3 c3 w3 hown3.at (by omega)
          rw [HZ.out] at hz3
          have hown7q := hown7.later hb3
          have hown6q := hown6.later hb3
          have hbrq := hbr.trans (hb3.mono hbr.size)
          clear hown3 hown7 hown6 hbr hb3
          go_wp2_with fail
          refine hz3.mono ?_
          rintro e w3' ⟨rfl, rfl⟩
          go_wp2_with fail
        case' inr =>
          rw [show decide (c ∈ sortM cells.length L) = false by simpa using hin] at hHas
          have HH := Lib.hid hHas
          have hown7q := hown7
          have hown6q := hown6
          have hbrq := hbr
          clear hin hHas hown7 hown6 hbr
          go_wp2_with fail
          refine HH.out.mono ?_
          rintro e w2 ⟨rfl, rfl⟩
          go_wp2_with fail
        all_goals
          refine (HOC.out c _ hck).mono ?_
          rintro e w4 ⟨a4, c4, rfl, hown4, hb4⟩
          have hown6 := hown6q.later hb4
          have hown7 := hown7q.later hb4
          have hbr := hbrq.trans (hb4.mono hbrq.size)
          have hown4' := hown4.mono hbrq.size
          have hol := opM_le cells W c
          have hNt : Hid (needGo cells W [] 0 cs = nd ++ ((if ((sortM cells.length (L ++ opM cells W c)).length == (sortM cells.length L).length) = true then [k] else []) ++ needGo cells W (L ++ opM cells W c) (k + 1) (cs.drop (k + 1)))) := hNs.out
          clear hown6q hown7q hbrq hb4 hown4 hNs
          generalize opM cells W c = near at *
          go_wp2_with fail
          go_loopw [6, 40] (fun v6 j wr => ∃ m : Nat, m ≤ near.length ∧ j = .int .i64 m ∧ Owns wr w.heap.size 3 v6 (nats (sortM cells.length (L ++ near.take m))) ∧ Owns wr w.heap.size 3 u7 (nats nd) ∧ Apart u7 v6 ∧ Owns wr w.heap.size 3 (.slice a4 near.length c4) (nats near) ∧ Below w.heap.size w wr) (fun _ j _ => near.length - (intOf j).toNat)
          case atStart => exact ⟨0, Nat.zero_le _, rfl, by simpa using hown6, hown7, hap, hown4', hbr⟩
          case round =>
            clear hown6 hown7 hap hown4' hbr
            obtain ⟨m, hm, rfl, hown6, hown7, hap, hown4, hbr⟩ := hrel
            obtain ⟨a6', c6', hv6'⟩ := hown6.shape
            simp only [nats_length] at hv6'
            subst hv6'
            have sr := hbr.size
            have hLL : ∀ x ∈ L ++ near.take m, x < cells.length := fun x hx => hL2.out x (by
              rcases List.mem_append.1 hx with h | h
              · exact List.mem_append.2 (.inl h)
              · exact List.mem_append.2 (.inr (List.mem_of_mem_take h)))
            have HLL := Lib.hid hLL
            clear hLL
            have hsm := sortM_le cells.length (L ++ near.take m)
            by_cases hmt : m < near.length
            · obtain ⟨g4, off4, rfl, hc4⟩ := nats_at hown4.at m hmt
              have hxn : near[m] < cells.length := hL2.out _ (List.mem_append.2 (.inr (List.getElem_mem hmt)))
              have hHas2 := l1HasN_any (sortM cells.length (L ++ near.take m)) near[m] a6' c6' wr hown6.at (by omega)
              have htk : L ++ near.take (m + 1) = (L ++ near.take m) ++ [near[m]] := by rw [List.take_succ_eq_append_getElem hmt, List.append_assoc]
              by_cases hin2 : near[m] ∈ sortM cells.length (L ++ near.take m)
              · rw [show decide (near[m] ∈ sortM cells.length (L ++ near.take m)) = true by simpa using hin2] at hHas2
                have hsn : sortM cells.length (L ++ near.take (m + 1)) = sortM cells.length (L ++ near.take m) := by
                  rw [htk, sort_mem HLL.out hin2 [], List.append_nil]
                have hown6' : Owns wr w.heap.size 3 (.slice a6' (sortM cells.length (L ++ near.take m)).length c6') (nats (sortM cells.length (L ++ near.take (m + 1)))) := by rw [hsn]; exact hown6
                have HH2 := Lib.hid hHas2
                clear hin2 hHas2 htk hsn hown6
                go_wp2_with fail
                refine HH2.out.mono ?_
                rintro e w5 ⟨rfl, rfl⟩
                go_wp2_with fail
                go_roundw
                case rel =>
                  first
                    | exact ⟨m + 1, by omega, by go_num, hown6', hown7, hap, hown4, hbr⟩
                    | ((repeat apply Exists.intro); exact ⟨⟨m + 1, by omega, by go_num, hown6', hown7, hap, hown4, hbr⟩, rfl⟩)
                case measure => simp [intOf]; omega
              · rw [show decide (near[m] ∈ sortM cells.length (L ++ near.take m)) = false by simpa using hin2] at hHas2
                have hpm : putM (sortM cells.length (L ++ near.take m)) near[m] = sortM cells.length (L ++ near.take (m + 1)) := by
                  rw [htk]; exact putM_sort HLL.out hxn
                have HPM := Lib.hid hpm
                have HH2 := Lib.hid hHas2
                have hown6s : Owns wr w.heap.size 3 (.slice a6' (sortM cells.length (L ++ near.take m)).length c6') (nats (sortM cells.length (L ++ near.take m))) := hown6
                clear hin2 hHas2 htk hpm hown6
                go_wp2_with fail
                refine HH2.out.mono ?_
                rintro e w5 ⟨rfl, rfl⟩
                go_wp2_with fail
                refine (l1Put_any (sortM cells.length (L ++ near.take m)) near[m] _ w.heap.size _ hown6s (by omega) (by omega)).mono ?_
                rintro e w7 ⟨v7, rfl, hown7p, hb7, hor⟩
                rw [HPM.out] at hown7p
                have hap7 : Apart u7 v7 := by
                  rcases hor with rfl | hor
                  · exact hap
                  · exact Apart.fresh hown7 hor
                have hbr7 := hbr.trans (hb7.mono hbr.size)
                have hown77 := hown7.later hb7
                have hown47 := hown4.later hb7
                clear hown6s hown7 hown4 hb7 hbr hap hor
                go_wp2_with fail
                go_roundw
                case rel =>
                  first
                    | exact ⟨m + 1, by omega, by go_num, hown7p, hown77, hap7, hown47, hbr7⟩
                    | ((repeat apply Exists.intro); exact ⟨⟨m + 1, by omega, by go_num, hown7p, hown77, hap7, hown47, hbr7⟩, rfl⟩)
                case measure => simp [intOf]; omega
            · obtain rfl : m = near.length := by omega
              simp only [List.take_length] at hown6 hsm hap ⊢
              clear hm hmt HLL hown4
              cases hsb : ((sortM cells.length (L ++ near)).length == (sortM cells.length L).length) with
              | true =>
                have hd : (((sortM cells.length (L ++ near)).length : Int) == ((sortM cells.length L).length : Int)) = true := by
                  have h1 : (sortM cells.length (L ++ near)).length = (sortM cells.length L).length := by simpa using hsb
                  rw [h1]; simp
                have hNx : Hid (needGo cells W [] 0 cs = (nd ++ [k]) ++ needGo cells W (L ++ near) (k + 1) (cs.drop (k + 1))) := by rw [Hid, hNt, if_pos hsb, List.append_assoc]
                have hnd9 : (nd ++ [k]).length ≤ k + 1 := by simp; omega
                clear hsb hNt
                go_wp2_with (at_builtin; refine wpList_app1K rfl _ _ _ rfl w.heap.size _ _ _ elemInt _ _ _ _ rfl rfl rfl hown7 rfl (by simp; omega) (by omega) (by simp; omega) ?_; intro v9 w9 hown9 hb9 hs9 hK9)
                rw [nats_snoc] at hown9
                obtain ⟨hown69, hap9⟩ := hK9 _ _ _ _ hown6 hap
                have hbr9 := hbr.trans hb9
                clear hK9 hown6 hown7 hbr hb9 hap hnd
                go_wp2_with fail
                go_roundw
                case rel =>
                  first
                    | exact ⟨k + 1, L ++ near, nd ++ [k], by omega, by go_num, hown69, hown9, hap9, hbr9, hnd9, hL2, hAs, hNx⟩
                    | ((repeat apply Exists.intro); exact ⟨⟨k + 1, L ++ near, nd ++ [k], by omega, by go_num, hown69, hown9, hap9, hbr9, hnd9, hL2, hAs, hNx⟩, rfl⟩)
                case measure => simp [intOf]; omega
              | false =>
                have hd : (((sortM cells.length (L ++ near)).length : Int) == ((sortM cells.length L).length : Int)) = false := by
                  have h1 : ¬ (sortM cells.length (L ++ near)).length = (sortM cells.length L).length := by simpa using hsb
                  rw [beq_eq_false_iff_ne]; omega
                have hNx : Hid (needGo cells W [] 0 cs = nd ++ needGo cells W (L ++ near) (k + 1) (cs.drop (k + 1))) := by rw [Hid, hNt, if_neg (by rw [hsb]; decide)]; rfl
                clear hsb hNt
                go_wp2_with fail
                go_roundw
                case rel =>
                  first
                    | exact ⟨k + 1, L ++ near, nd, by omega, by go_num, hown6, hown7, hap, hbr, by omega, hL2, hAs, hNx⟩
                    | ((repeat apply Exists.intro); exact ⟨⟨k + 1, L ++ near, nd, by omega, by go_num, hown6, hown7, hap, hbr, by omega, hL2, hAs, hNx⟩, rfl⟩)
                case measure => simp [intOf]; omega
    · have hfin : Hid (sortM cells.length L = aftM cells W cs) := by rw [Hid, HAM.out, hA.out, List.drop_of_length_le (by omega)]; rfl
      have hfin2 : Hid (nd = needM cells W cs) := by rw [Hid, HNM.out, hN.out, List.drop_of_length_le (by omega)]; simp [needGo]
      obtain rfl : k = cs.length := by omega
      rw [hfin.out] at hown6
      rw [hfin2.out] at hown7
      obtain ⟨a6, c6, hv6⟩ := hown6.shape
      obtain ⟨a7, c7, hv7⟩ := hown7.shape
      simp only [nats_length] at hv6 hv7
      subst hv6 hv7
      clear hlt hA hN
      go_wp2_with fail
      go_ret2
      exact ⟨a6, c6, a7, c7, rfl, hown6, hown7, hbr⟩
end Go.Proofs.YtndmkbkmfonefadDoor

/- Cells open behind clicks, by the model: the functions. -/
namespace Go.Proofs.YtndmkbkmfonefadDoor
open Go.RowKit

/-- Clicks as cells. -/
def csOf (xs : List Int) : List Nat := xs.map Int.toNat
@[simp] theorem csOf_length (xs : List Int) : (csOf xs).length = xs.length := by simp [csOf]
theorem clk_cells {l : List UInt8} {xs : List Int} (h : clkOK l xs = true) : ints xs = nats (csOf xs) ∧ (∀ c ∈ csOf xs, c < (gCells l).length ∧ (gCells l).getD c 0 = 46) := by
  obtain ⟨hg, _, hf⟩ := clk_yes h
  have key : ∀ x ∈ xs, ((x.toNat : Nat) : Int) = x ∧ x.toNat < (gCells l).length ∧ (gCells l).getD x.toNat 0 = 46 := by
    intro x hx
    obtain ⟨_, k, rfl, hk, hne⟩ := freeOK_yes (hf x hx)
    refine ⟨rfl, hk, ?_⟩
    have hgc : gCells l = cellsM l := by rw [gCells, if_pos hg]
    have hs := cells_sign hg ((gCells l).getD k 0) (by
      rw [← hgc, List.getD_eq_getElem?_getD, List.getElem?_eq_getElem hk]
      exact List.getElem_mem hk)
    rcases hs with h | h
    · exact h
    · exact absurd h hne
  refine ⟨?_, ?_⟩
  · simp only [nats, ints, csOf, List.map_map]
    apply List.map_congr_left
    intro x hx
    simp [(key x hx).1]
  · intro c hc
    obtain ⟨x, hx, rfl⟩ := List.mem_map.1 hc
    exact (key x hx).2
def oaOf (l : List UInt8) (xs : List Int) : List Nat := if clkOK l xs = true then aftM (gCells l) (gW l) (csOf xs) else []
def ndOf (l : List UInt8) (xs : List Int) : List Nat := if clkOK l xs = true then needM (gCells l) (gW l) (csOf xs) else []

set_option maxRecDepth 100000 in
set_option maxHeartbeats 1600000 in
theorem sOpenAfter_any (l : List UInt8) (xs : List Int) (a : Option Addr) (cap : Nat) (w : World) (hl : l.length ≤ 1048576) (hat : At w a (ints xs)) (hx : xs.length ≤ 1048576) :
    Calls Tryd.prog 13 #[.string ⟨l.toArray⟩, .slice a xs.length cap] w fun e w' => ∃ a' c', e = .returned (.tuple #[.slice a' (oaOf l xs).length c', .bool (clkOK l xs)]) ∧ Owns w' w.heap.size 3 (.slice a' (oaOf l xs).length c') (nats (oaOf l xs)) ∧ Below w.heap.size w w' := by
  have hck := fun w h => opClicks_any l xs a cap w hl h hx
  cases hv : clkOK l xs with
  | false =>
    have HO : Hid (oaOf l xs = []) := by rw [Hid, oaOf, if_neg (by rw [hv]; decide)]
    rw [hv] at hck
    clear hv
    go_enter Tryd.func13, Tryd.ntmps13
    go_wp2_with fail
    refine (hck _ hat).mono ?_
    rintro e w1 ⟨rfl, hb1⟩
    go_wp2_with fail
    go_ret2
    exact ⟨none, 0, by rw [HO.out]; rfl, by rw [HO.out]; exact Owns.nil _ _ _, hb1⟩
  | true =>
    obtain ⟨hg, h64, _⟩ := clk_yes hv
    obtain ⟨hcs, hcc⟩ := clk_cells hv
    have hB := Brd.of hg
    obtain ⟨g1, g2, g3⟩ := hB.grid
    have HO : Hid (oaOf l xs = aftM (cellsM l) (headLen (splitB 47 l)) (csOf xs)) := by rw [Hid, oaOf, if_pos hv, g1, g3]
    rw [g3] at hcc
    rw [hv] at hck
    have hop := fun w h => opAfter_any l _ _ _ (csOf xs) a cap w hl hB h (by simpa using h64) (fun c hc => (hcc c hc).1) (fun c hc => (hcc c hc).2)
    rw [csOf_length, ← hcs] at hop
    rw [← HO.out] at hop
    have HOP := Lib.hid hop
    have HCK := Lib.hid hck
    clear hv hcs hcc hB g1 g2 g3 hop hck hg
    go_enter Tryd.func13, Tryd.ntmps13
    go_wp2_with fail
    refine (HCK.out _ hat).mono ?_
    rintro e w1 ⟨rfl, hb1⟩
    go_wp2_with fail
    refine (HOP.out _ (hat.later rfl hb1)).mono ?_
    rintro e w2 ⟨a1, c1, a2, c2, rfl, ho1, ho2, hb2⟩
    go_wp2_with fail
    go_ret2
    exact ⟨a1, c1, rfl, ho1.mono hb1.size, hb1.trans (hb2.mono hb1.size)⟩
end Go.Proofs.YtndmkbkmfonefadDoor
