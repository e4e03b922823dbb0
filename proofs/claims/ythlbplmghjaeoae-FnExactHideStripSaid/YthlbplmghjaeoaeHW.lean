/- Strips: the strip of a list of mines in which some cells are hidden, by the program. -/
import Derived.Test.YthlbplmghjaeoaeHV
import Derived.Test.YthlbplmghjaeoaeGY1
namespace Go.Proofs.Ythlbplmghjaeoae
open Go.RowKit

/-- The cells that are seen: those that are free and not hidden. -/
def hidO (cells : List UInt8) (hid : Nat → Bool) (k : Nat) : Bool := freeB cells k && !hid k
/-- The map behind some cells. -/
def hidF (hid : Nat → Bool) (L : List Nat) (k : Nat) : Option Value := if k ∈ L then some (.bool (!hid k)) else none
theorem hidF_put (hid : Nat → Bool) (L : List Nat) (x : Nat) : putF (hidF hid L) x (.bool (!hid x)) = hidF hid (L ++ [x]) := by
  funext k
  unfold putF hidF
  by_cases h : k = x
  · subst h; simp
  · rw [if_neg h]; simp [h]
theorem hidF_all (cells : List UInt8) (hid : Nat → Bool) (k : Nat) : (hidF hid (filtM (fun k => freeB cells k) cells.length) k).getD (.bool false) = .bool (hidO cells hid k) := by
  unfold hidF hidO
  by_cases h : k ∈ filtM (fun k => freeB cells k) cells.length
  · rw [if_pos h]
    rw [filtM, List.mem_filter] at h
    rw [h.2]
    rfl
  · rw [if_neg h]
    have hz : freeB cells k = false := by
      rw [filtM, List.mem_filter, List.mem_range] at h
      by_cases hk : k < cells.length
      · cases hf : freeB cells k with
        | false => rfl
        | true => exact absurd ⟨hk, hf⟩ h
      · exact freeB_out cells k (.inr (by omega))
    rw [hz]
    rfl

theorem enters_isFreeH (args : Array Value) (w' : World) : (callFunc 69 args).run Try.prog w' = .ok (.enter 69 args) w' := by
  go_simp
theorem VM.nocells {w : World} {b n : Nat} {f : Nat → Option Value} (h : VM keyN w b n f) : ∀ cur e q, w.heap[b]? ≠ some (.cells cur e q) := by
  intro cur e q hc
  obtain ⟨D, ⟨es, clock, hb, _⟩, _⟩ := h
  rw [hb] at hc
  cases hc
set_option maxRecDepth 100000 in
set_option maxHeartbeats 3200000 in
theorem hideCells_any (W H : Nat) (a : Option Addr) (cells : List UInt8) (cap : Nat) (hid : Nat → Bool) (F : Nat) (first cp : Array Value) (w : World) (hat : At w a (byts cells)) (hn : cells.length = W * H) (hW : 1 ≤ W ∧ W ≤ 40) (hH : H = 1)
    (hE : ∀ (args : Array Value) (w' : World), (callFunc F args).run Try.prog w' = .ok (.enter F args) w')
    (hf : ∀ (w' : World) (k : Nat), Below w.heap.size w w' → k < cells.length → Calls Try.prog F (first.push (.int .i64 (k : Int)) ++ cp) w' fun e w'' => e = .returned (.bool (hid k)) ∧ Below w'.heap.size w' w'') :
    Calls Try.prog 51 #[.agg #[.int .i64 W, .int .i64 H, .slice a cells.length cap, .bool false], .func (.func F) first cp] w fun e w' => e = .returned (.string ⟨(seeM cells W (hidO cells hid)).toArray⟩) ∧ Below w.heap.size w w' := by
  have h64 : cells.length ≤ 64 := by rw [hn, hH]; omega
  have HF := Lib.hid hf
  have HALL := Lib.hid (hidF_all cells hid)
  have hst := fun (w : World) (b nE : Nat) (f : Nat → Option Value) (op : Nat → Bool) h1 h2 h3 => seenText_row W H a cells cap b nE f op w h1 h2 h3 hn hW hH
  have HST := Lib.hid hst
  have hpk := fun (w4 : World) (hat4 : At w4 a (byts cells)) => pick_any (J := false) W H a cells.length cap (fun k => freeB cells k) 69 #[.agg #[.int .i64 W, .int .i64 H, .slice a cells.length cap, .bool false]] #[] w4 h64 enters_isFreeH (fun w' k hb' _ => isFree_any (J := false) W H a cells cap k w' (hat4.later rfl hb') h64)
  have HPK := Lib.hid hpk
  have HLT : Hid (∀ x ∈ filtM (fun k => freeB cells k) cells.length, x < cells.length) := by
    intro x hx
    rw [filtM, List.mem_filter, List.mem_range] at hx
    exact hx.1
  have hLL := filtM_le (fun k => freeB cells k) cells.length
  clear hf hst hpk hn hW hH
  generalize filtM (fun k => freeB cells k) cells.length = L at *
  have hb0 : Below w.heap.size w (w.alloc (.cells #[.int .i64 W, .int .i64 H, .slice a cells.length cap, .bool false] 66)) := (Below.refl _ _).alloc (Nat.le_refl _) _
  have hG0 : (w.alloc (.cells #[.int .i64 W, .int .i64 H, .slice a cells.length cap, .bool false] 66)).heap[w.heap.size]? = some (.cells #[.int .i64 W, .int .i64 H, .slice a cells.length cap, .bool false] 66 (0, 0)) := heap_alloc_new w _
  have hs0 : (w.alloc (.cells #[.int .i64 W, .int .i64 H, .slice a cells.length cap, .bool false] 66)).heap.size = w.heap.size + 1 := by simp
  have hat0 : At (w.alloc (.cells #[.int .i64 W, .int .i64 H, .slice a cells.length cap, .bool false] 66)) a (byts cells) := hat.later rfl hb0
  have hmm := @run_makeMap Try.prog
  go_enter Try.func51, Try.ntmps51
  go_upto_region 1 with fail
  generalize w.alloc (.cells #[.int .i64 W, .int .i64 H, .slice a cells.length cap, .bool false] 66) = w0 at *
  have hM1 := VM.made keyN w0
  have hb1 : Below w0.heap.size w0 (w0.alloc (.map #[] 0)) := (Below.refl _ _).alloc (Nat.le_refl _) _
  have hs1 : (w0.alloc (.map #[] 0)).heap.size = w0.heap.size + 1 := by simp
  have hat1 : At (w0.alloc (.map #[] 0)) a (byts cells) := hat0.later rfl hb1
  have HS0 := Lib.hid hs0
  have hG1 := (hb1.block w.heap.size (by omega)).trans hG0
  clear hs0
  go_upto_region 2 with fail
  generalize w0.alloc (.map #[] 0) = w1 at *
  have hf0 := cell_of_block hG1 0
  have hf1 := cell_of_block hG1 1
  have hf2 := cell_of_block hG1 2
  have hf3 := cell_of_block hG1 3
  simp at hf0 hf1 hf2 hf3
  clear hmm
  go_wp2_with fail
  refine (HPK.out _ hat1).mono ?_
  rintro e w2 ⟨a2, c2, rfl, hown2, hb2⟩
  have hM2 := hM1.later keyN hb2
  have hG2 := (hb2.block _ (by have := HS0.out; omega)).trans hG1
  have hat2 := hat1.later rfl hb2
  have hb02 : Below w0.heap.size w0 w2 := hb1.trans (hb2.mono (by omega))
  have hs2 := hb2.size
  have HG2 := Lib.hid hG2
  have hmb : w0.heap.size < w1.heap.size := by omega
  clear hf0 hf1 hf2 hf3 hG0 hG1 hat1 hb1 hb2 hM1
  have hM0 : VM keyN w2 w0.heap.size 0 (hidF hid (L.take 0)) := by
    have e : hidF hid (L.take 0) = fun _ => none := by funext k; simp [hidF]
    rw [e]; exact hM2
  clear hM2
  go_wp2_with fail
  go_loopw [14] (fun i wr => ∃ j : Nat, j ≤ L.length ∧ i = .int .i64 j ∧ Hid (VM keyN wr w0.heap.size j (hidF hid (L.take j))) ∧ Touch w0.heap.size w2 wr) (fun i _ => L.length - (intOf i).toNat)
  case atStart => exact ⟨0, Nat.zero_le _, rfl, hM0, Touch.refl _ _⟩
  case round =>
    obtain ⟨j, hj, rfl, HM, ht⟩ := hrel
    have hbr : Below w.heap.size w wr := (hb0.trans (hb02.mono (by have := HS0.out; omega))).trans (ht.below (by have := HS0.out; omega) (by omega))
    by_cases hlt : j < L.length
    · obtain ⟨b, off, he, hcx⟩ := nats_at ((hown2.touch ht hmb).at) j hlt
      subst he
      have hxl := HLT.out _ (List.getElem_mem hlt)
      have hput : Hid (putF (hidF hid (L.take j)) L[j] (.bool (!hid L[j])) = hidF hid (L.take (j + 1))) := by
        rw [Hid, hidF_put, ← List.take_succ_eq_append_getElem hlt]
      have hcall := HF.out wr L[j] hbr hxl
      generalize L[j] = x at *
      have HC := Lib.hid hcall
      clear hcall
      go_wp2_with fail
      refine HC.out.mono ?_
      rintro e w4 ⟨rfl, hb4⟩
      have hM4 := HM.out.later keyN hb4
      go_wp2_with (first | (at_mapUpdate; refine wpList_vm_put keyN rfl _ _ _ _ _ rfl Try.underlying79 w0.heap.size j _ rfl hM4 x rfl (show x < 64 by omega) (.bool (!hid x)) rfl (by omega) ?_; intro w5 hM5 ht5))
      rw [hput.out] at hM5
      go_roundw
      case rel => exact ⟨j + 1, by omega, by go_num, hM5, (ht.trans (Touch.of hb4)).trans ht5⟩
      case measure => simp [intOf]; omega
    · obtain rfl : j = L.length := by omega
      have hMe := HM.out
      rw [List.take_length] at hMe
      have hate := hat2.touch ht (hM0.nocells)
      have hGe := (ht.block w.heap.size (by have := HS0.out; omega) (by have := HS0.out; simp; omega)).trans HG2.out
      have hf0 := cell_of_block hGe 0
      have hf1 := cell_of_block hGe 1
      have hf2 := cell_of_block hGe 2
      have hf3 := cell_of_block hGe 3
      simp at hf0 hf1 hf2 hf3
      have HS2 := Lib.hid (HST.out wr w0.heap.size L.length (hidF hid L) (hidO cells hid) hate hMe (fun k _ => HALL.out k))
      clear hGe hMe
      go_wp2_with fail
      refine HS2.out.mono ?_
      rintro e w6 ⟨rfl, hb6⟩
      go_wp2_with fail
      go_ret
      exact ⟨rfl, hbr.trans (hb6.mono hbr.size)⟩
end Go.Proofs.Ythlbplmghjaeoae
