/- Walks: the number of a cell, by the model and by the program. -/
import Derived.Test.YtemedmkealegcaaN0
import Derived.Outline
namespace Go.Proofs.Ytemedmkealegcaa
open Go.RowKit


set_option maxRecDepth 100000 in
set_option maxHeartbeats 1600000 in
theorem number_any (W H : Nat) (a : Option Addr) (cells : List UInt8) (cap : Nat) (c : Nat) (w : World) (hat : At w a (byts cells)) (hW : 1 ≤ W) (hc : c < cells.length) (hn : cells.length ≤ 64) :
    Calls Try.prog 78 #[.agg #[.int .i64 W, .int .i64 H, .slice a cells.length cap], .int .i64 c] w fun e w' => e = .returned (.int .i64 (numM cells W c)) ∧ Below w.heap.size w w' := by
  have hNlt : ∀ o ∈ nearM W cells.length c, o < cells.length := fun o ho => nearM_lt _ _ _ _ ho
  have hNle := nearM_le W cells.length c
  have hT : Hid (numM cells W c = countAt cells (nearM W cells.length c)) := rfl
  go_enter Try.func78, Try.ntmps78
  go_wp2_with fail
  have hG1 : (w.alloc (.cells #[.int .i64 W, .int .i64 H, .slice a cells.length cap] 46)).heap[w.heap.size]? = some (.cells #[.int .i64 W, .int .i64 H, .slice a cells.length cap] 46 (0, 0)) := heap_alloc_new w _
  have hw0 : Below w.heap.size w (w.alloc (.cells #[.int .i64 W, .int .i64 H, .slice a cells.length cap] 46)) := (Below.refl _ _).alloc (Nat.le_refl _) _
  have hs0 : w.heap.size < (w.alloc (.cells #[.int .i64 W, .int .i64 H, .slice a cells.length cap] 46)).heap.size := by simp
  generalize w.alloc (.cells #[.int .i64 W, .int .i64 H, .slice a cells.length cap] 46) = w0 at *
  refine (neighbours_any W H a cells.length cap c _ hW (by omega) hn).mono ?_
  rintro e w1 ⟨a1, cap1, rfl, hown, hb1⟩
  have hatN : At w1 a1 (nats (nearM W cells.length c)) := hown.at
  have hat1 : At w1 a (byts cells) := (hat.later rfl hw0).later rfl hb1
  have s1 := hb1.size
  have hG2 : Hid (w1.heap[w.heap.size]? = some (.cells #[.int .i64 W, .int .i64 H, .slice a cells.length cap] 46 (0, 0))) := by rw [Hid, hb1.block _ hs0]; exact hG1
  have hb01 : Below w.heap.size w w1 := hw0.trans (hb1.mono (by omega))
  clear hown hG1
  generalize nearM W cells.length c = N at *
  generalize hGG : w.heap.size = G at *
  have HGG := Lib.hid hGG
  clear hGG
  go_wp2_with fail
  go_loopw [5, 12] (fun q i wr => ∃ k : Nat, k ≤ N.length ∧ i = .int .i64 k ∧ ∃ s : Nat, s ≤ k ∧ q = .int .i64 s ∧ Below w1.heap.size w1 wr ∧ Hid (numM cells W c = s + countAt cells (N.drop k))) (fun _ i _ => N.length - (intOf i).toNat)
  case atStart => exact ⟨0, Nat.zero_le _, rfl, 0, by omega, rfl, Below.refl _ _, by rw [Hid, hT.out]; simp⟩
  case round =>
    obtain ⟨k, hk, rfl, s, hs, rfl, hb, hR⟩ := hrel
    have sr := hb.size
    by_cases hlt : k < N.length
    · have hGr : wr.heap[G]? = some (.cells #[.int .i64 W, .int .i64 H, .slice a cells.length cap] 46 (0, 0)) := by rw [hb.block _ (by omega)]; exact hG2.out
      have hf0 := cell_of_block hGr 0
      have hf1 := cell_of_block hGr 1
      have hf2 := cell_of_block hGr 2
      simp at hf0 hf1 hf2
      clear hGr
      have hatr : At wr a (byts cells) := hat1.later rfl hb
      obtain ⟨b, off, he, hcell⟩ := nats_at (hatN.later rfl hb) k hlt
      subst he
      have Ht := Lib.hid (List.drop_eq_getElem_cons hlt)
      have ho := hNlt _ (List.getElem_mem hlt)
      generalize N[k] = o at *
      have hgd : Hid (cells.getD o 0 = cells[o]) := by simp [Hid, List.getD, ho]
      by_cases h42 : cells[o] = 42
      · have hd : ((cells[o].toNat : Int) == 42) = true := by rw [is42]; simp [h42]
        have H42 := Lib.hid h42
        clear h42
        go_wp2_with (go_at_call 75; refine (isMine_any W H a cells cap o _ hatr ho hn).mono ?_; rintro e w2 ⟨rfl, hb2⟩)
        go_roundw
        case rel => exact ⟨k + 1, by omega, by go_num, s + 1, by omega, by go_num, hb.trans (hb2.mono sr), by rw [Hid, hR.out, Ht.out, countAt, hgd.out, if_pos H42.out]; omega⟩
        case measure => simp [intOf]; omega
      · have hd : ((cells[o].toNat : Int) == 42) = false := by rw [is42]; simp [h42]
        have H42 := Lib.hid h42
        clear h42
        go_wp2_with (go_at_call 75; refine (isMine_any W H a cells cap o _ hatr ho hn).mono ?_; rintro e w2 ⟨rfl, hb2⟩)
        go_roundw
        case rel => exact ⟨k + 1, by omega, by go_num, s, by omega, rfl, hb.trans (hb2.mono sr), by rw [Hid, hR.out, Ht.out, countAt, hgd.out, if_neg H42.out]⟩
        case measure => simp [intOf]; omega
    · obtain rfl : k = N.length := by omega
      have hfin : s = numM cells W c := by rw [hR.out]; simp [countAt]
      go_wp2_with fail
      go_ret
      rw [HGG.out]
      exact ⟨by rw [← hfin]; rfl, hb01.trans (hb.mono (by omega))⟩
end Go.Proofs.Ytemedmkealegcaa
