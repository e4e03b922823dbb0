/- Walks: the number of a cell, by the model and by the program. -/
import Derived.Test.YthlbplmghjaeoaeN0
import Derived.Outline
namespace Go.Proofs.Ythlbplmghjaeoae
open Go.RowKit

set_option maxRecDepth 100000 in
set_option maxHeartbeats 1600000 in
theorem boNumber_any (W H : Nat) (cells : List UInt8) (c : Nat) (w : World) (hW : 1 ≤ W ∧ W ≤ 8) (hH : H ≤ 8) (hn : cells.length = W * H) (hc : c < cells.length) :
    Calls Try.prog 41 #[.string ⟨cells.toArray⟩, .int .i64 W, .int .i64 c] w fun e w' => e = .returned (.int .i64 (numM cells W c)) ∧ Below w.heap.size w w' := by
  have hn64 : cells.length ≤ 64 := by rw [hn]; exact Nat.mul_le_mul hW.2 hH
  have hq : ((cells.length : Int) / (W : Int)) = (H : Int) := by
    rw [hn]; simp only [Int.natCast_mul]; exact Int.mul_ediv_cancel_left _ (by omega)
  have hne := near_eq W H c hW.2 hH (by omega)
  rw [← hn] at hne
  have hNlt : ∀ o ∈ nearM W cells.length c, o < cells.length := fun o ho => nearM_lt _ _ _ _ ho
  have hNle := nearM_le W cells.length c
  have hT : Hid (numM cells W c = countAt cells (nearM W cells.length c)) := rfl
  have hcn : c < W * H := by omega
  have HN := Lib.hid hn
  clear hn
  have HNE := Lib.hid hne
  clear hne
  have hw : wrap64 ((cells.length : Int) / (W : Int)) = (H : Int) := by rw [hq, IntWalk.wrap64_in _ ⟨by omega, by omega⟩]
  go_enter Try.func41, Try.ntmps41
  go_wp2_with fail
  clear hw
  have HQ := Lib.hid hq
  clear hq
  refine (boNear_any W H c _ hW hH (by omega)).mono ?_
  rintro e w1 ⟨a, cap, rfl, hown, hb⟩
  rw [HNE.out] at hown ⊢
  have hat : At w1 a (nats (nearM W cells.length c)) := hown.at
  simp only [List.length_map]
  clear HNE hown
  generalize nearM W cells.length c = N at *
  go_wp2_with fail
  go_loop [7, 18] (fun q i => ∃ k : Nat, k ≤ N.length ∧ i = .int .i64 k ∧ ∃ s : Nat, s ≤ k ∧ q = .int .i64 s ∧ Hid (numM cells W c = s + countAt cells (N.drop k))) (fun _ i => N.length - (intOf i).toNat)
  case atStart => exact ⟨0, Nat.zero_le _, rfl, 0, by omega, rfl, by rw [Hid, hT.out]; simp⟩
  case round =>
    obtain ⟨k, hk, rfl, s, hs, rfl, hR⟩ := hrel
    by_cases hlt : k < N.length
    · obtain ⟨b, off, rfl, hcell⟩ := nats_at hat k hlt
      have Ht := Lib.hid (List.drop_eq_getElem_cons hlt)
      have ho := hNlt _ (List.getElem_mem hlt)
      generalize N[k] = o at *
      have hgd : Hid (cells.getD o 0 = cells[o]) := by simp [Hid, List.getD, ho]
      by_cases h42 : cells[o] = 42
      · have hd : ((cells[o].toNat : Int) == 42) = true := by rw [is42]; simp [h42]
        have H42 := Lib.hid h42
        clear h42
        go_wp2_with fail
        go_round
        case rel => exact ⟨k + 1, by omega, by go_num, s + 1, by omega, by go_num, by rw [Hid, hR.out, Ht.out, countAt, hgd.out, if_pos H42.out]; omega⟩
        case measure => simp [intOf]; omega
      · have hd : ((cells[o].toNat : Int) == 42) = false := by rw [is42]; simp [h42]
        have H42 := Lib.hid h42
        clear h42
        go_wp2_with fail
        go_round
        case rel => exact ⟨k + 1, by omega, by go_num, s, by omega, rfl, by rw [Hid, hR.out, Ht.out, countAt, hgd.out, if_neg H42.out]⟩
        case measure => simp [intOf]; omega
    · obtain rfl : k = N.length := by omega
      have hfin : s = numM cells W c := by rw [hR.out]; simp [countAt]
      go_wp2_with fail
      go_ret
      exact ⟨by rw [← hfin]; rfl, hb⟩

set_option maxRecDepth 100000 in
set_option maxHeartbeats 1600000 in
theorem numberJ_any {J : Bool} (W H : Nat) (a : Option Addr) (cells : List UInt8) (cap : Nat) (c : Nat) (w : World) (hat : At w a (byts cells)) (hW : 1 ≤ W) (hc : c < cells.length) (hn : cells.length ≤ 64) (hJ : J = true → (1 ≤ W ∧ W ≤ 1048576) ∧ (1 ≤ H ∧ H ≤ 1048576)) :
    Calls Try.prog 87 #[.agg #[.int .i64 W, .int .i64 H, .slice a cells.length cap, .bool J], .int .i64 c] w fun e w' => e = .returned (.int .i64 (numM cells (geoOf J W H) c)) ∧ Below w.heap.size w w' := by
  have hnbr := fun w => neighboursJ_any (J := J) W H a cells.length cap c w hW (by omega) hn hJ
  obtain ⟨V, hV⟩ : ∃ V, geoOf J W H = V := ⟨_, rfl⟩
  rw [hV] at hnbr ⊢
  clear hV hJ
  have HNB := Lib.hid hnbr
  clear hnbr
  have hNlt : ∀ o ∈ nearM V cells.length c, o < cells.length := fun o ho => nearM_lt _ _ _ _ ho
  have hNle := nearM_le V cells.length c
  have hT : Hid (numM cells V c = countAt cells (nearM V cells.length c)) := rfl
  go_enter Try.func87, Try.ntmps87
  go_wp2_with fail
  have hG1 : (w.alloc (.cells #[.int .i64 W, .int .i64 H, .slice a cells.length cap, .bool J] 66)).heap[w.heap.size]? = some (.cells #[.int .i64 W, .int .i64 H, .slice a cells.length cap, .bool J] 66 (0, 0)) := heap_alloc_new w _
  have hw0 : Below w.heap.size w (w.alloc (.cells #[.int .i64 W, .int .i64 H, .slice a cells.length cap, .bool J] 66)) := (Below.refl _ _).alloc (Nat.le_refl _) _
  have hs0 : w.heap.size < (w.alloc (.cells #[.int .i64 W, .int .i64 H, .slice a cells.length cap, .bool J] 66)).heap.size := by simp
  generalize w.alloc (.cells #[.int .i64 W, .int .i64 H, .slice a cells.length cap, .bool J] 66) = w0 at *
  refine (HNB.out _).mono ?_
  rintro e w1 ⟨a1, cap1, rfl, hown, hb1⟩
  have hatN : At w1 a1 (nats (nearM V cells.length c)) := hown.at
  have hat1 : At w1 a (byts cells) := (hat.later rfl hw0).later rfl hb1
  have s1 := hb1.size
  have hG2 : Hid (w1.heap[w.heap.size]? = some (.cells #[.int .i64 W, .int .i64 H, .slice a cells.length cap, .bool J] 66 (0, 0))) := by rw [Hid, hb1.block _ hs0]; exact hG1
  have hb01 : Below w.heap.size w w1 := hw0.trans (hb1.mono (by omega))
  clear hown hG1
  generalize nearM V cells.length c = N at *
  generalize hGG : w.heap.size = G at *
  have HGG := Lib.hid hGG
  clear hGG
  go_wp2_with fail
  go_loopw [5, 12] (fun q i wr => ∃ k : Nat, k ≤ N.length ∧ i = .int .i64 k ∧ ∃ s : Nat, s ≤ k ∧ q = .int .i64 s ∧ Below w1.heap.size w1 wr ∧ Hid (numM cells V c = s + countAt cells (N.drop k))) (fun _ i _ => N.length - (intOf i).toNat)
  case atStart => exact ⟨0, Nat.zero_le _, rfl, 0, by omega, rfl, Below.refl _ _, by rw [Hid, hT.out]; simp⟩
  case round =>
    obtain ⟨k, hk, rfl, s, hs, rfl, hb, hR⟩ := hrel
    have sr := hb.size
    by_cases hlt : k < N.length
    · have hGr : wr.heap[G]? = some (.cells #[.int .i64 W, .int .i64 H, .slice a cells.length cap, .bool J] 66 (0, 0)) := by rw [hb.block _ (by omega)]; exact hG2.out
      have hf0 := cell_of_block hGr 0
      have hf1 := cell_of_block hGr 1
      have hf2 := cell_of_block hGr 2
      have hf3 := cell_of_block hGr 3
      simp at hf0 hf1 hf2 hf3
      clear hGr
      have hatr : At wr a (byts cells) := hat1.later rfl hb
      obtain ⟨b, off, he, hcell⟩ := nats_at (hatN.later rfl hb) k hlt
      subst he
      have Ht := Lib.hid (List.drop_eq_getElem_cons hlt)
      have ho := hNlt _ (List.getElem_mem hlt)
      generalize N[k] = o at *
      have hgd : Hid (cells.getD o 0 = cells[o]) := by simp [Hid, List.getD, ho]
      by_cases h42 : cells[o] = 42
      · have hd : ((cells[o].toNat : Int) == 42) = true := by rw [is42]; simp [h42]
        have H42 := Lib.hid h42
        clear h42
        go_wp2_with (go_at_call 85; refine (isMine_any W H a cells cap o _ hatr ho hn).mono ?_; rintro e w2 ⟨rfl, hb2⟩)
        go_roundw
        case rel => exact ⟨k + 1, by omega, by go_num, s + 1, by omega, by go_num, hb.trans (hb2.mono sr), by rw [Hid, hR.out, Ht.out, countAt, hgd.out, if_pos H42.out]; omega⟩
        case measure => simp [intOf]; omega
      · have hd : ((cells[o].toNat : Int) == 42) = false := by rw [is42]; simp [h42]
        have H42 := Lib.hid h42
        clear h42
        go_wp2_with (go_at_call 85; refine (isMine_any W H a cells cap o _ hatr ho hn).mono ?_; rintro e w2 ⟨rfl, hb2⟩)
        go_roundw
        case rel => exact ⟨k + 1, by omega, by go_num, s, by omega, rfl, hb.trans (hb2.mono sr), by rw [Hid, hR.out, Ht.out, countAt, hgd.out, if_neg H42.out]⟩
        case measure => simp [intOf]; omega
    · obtain rfl : k = N.length := by omega
      have hfin : s = numM cells V c := by rw [hR.out]; simp [countAt]
      go_wp2_with fail
      go_ret
      rw [HGG.out]
      exact ⟨by rw [← hfin]; rfl, hb01.trans (hb.mono (by omega))⟩
/-- The same where rows are not joined. -/
theorem number_any (W H : Nat) (a : Option Addr) (cells : List UInt8) (cap : Nat) (c : Nat) (w : World) (hat : At w a (byts cells)) (hW : 1 ≤ W) (hc : c < cells.length) (hn : cells.length ≤ 64) :
    Calls Try.prog 87 #[.agg #[.int .i64 W, .int .i64 H, .slice a cells.length cap, .bool false], .int .i64 c] w fun e w' => e = .returned (.int .i64 (numM cells W c)) ∧ Below w.heap.size w w' :=
  numberJ_any W H a cells cap c w hat hW hc hn nofun
end Go.Proofs.Ythlbplmghjaeoae
