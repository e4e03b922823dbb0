/- How many clicks more open all free cells, by the program. -/
import Derived.Test.YtndmkbkmfonefacDoorVE
import Derived.Outline
namespace Go.Proofs.YtndmkbkmfonefacDoor
open Go.RowKit

set_option maxRecDepth 100000 in
set_option maxHeartbeats 1600000 in
theorem iClicksNeeded_any (l : List UInt8) (xs : List Int) (a : Option Addr) (cap : Nat) (w : World) (hM : HasMax w) (hl : l.length ≤ 1048576) (hat : At w a (ints xs)) (hx : xs.length ≤ 1048576) :
    Calls Tryd.prog 36 #[.string ⟨l.toArray⟩, .slice a xs.length cap] w fun e w' => e = .returned (.tuple #[.int .i64 (cnOf l xs : Nat), .bool (clkOK l xs)]) ∧ Below w.heap.size w w' := by
  have hrc := readClicks_any l xs a cap w hM hl hat hx
  have hoa := fun (w : World) (a' : Option Addr) (c' : Nat) (h : At w a' (byts (kC l xs))) => openAfter_any (kW l xs) (kH l xs) a' (kC l xs) c' (kS l xs) w h (kC_le l xs) (kS_le l xs) (fun h => by
    have := kS_lt l xs ((kS l xs)[0]) (List.getElem_mem h)
    exact kW_pos l xs (by omega)) (kS_lt l xs)
  have h64 := kC_le l xs
  have HO : Hid (∀ PL : List Nat, (∀ x, x ∈ PL ↔ x ∈ aftL (kC l xs) (kW l xs) [] (kS l xs)) → cnOf l xs = cntN PL (fcM (kC l xs) (kW l xs))) := fun PL h => by
    rw [cn_k]; exact cntN_congr (fun x => by rw [oa_k, aftM, ← sortM_congr h, mem_sortM (fun y hy => aftL_lt _ _ (kS l xs) [] (by simp) y ((h y).1 hy))]) _
  have hcf := fun (w : World) (a' : Option Addr) (c' : Nat) (h : At w a' (byts (kC l xs))) => firstClicks_any (kW l xs) (kH l xs) a' (kC l xs) c' w h (kC_le l xs) (kW_pos l xs)
  have hfl := fcM_le (kC l xs) (kW l xs)
  have HFC : Hid (∀ c ∈ fcM (kC l xs) (kW l xs), c < (kC l xs).length) := fun c hc => by unfold fcM sortM at hc; rw [List.mem_filter, List.mem_range] at hc; exact hc.1
  have hz : ∀ w : World, (zeroValue 63).run Tryd.prog w = .ok (.agg (lst [])) w := fun w => by kernel_rfl
  have hszl : (Tryd.prog.info? 63).map (·.size) = some (lst (kS l xs)).size := by rw [lst_size (kS_le l xs)]; kernel_rfl
  have hszz : (lst []).size = (lst (kS l xs)).size := by rw [lst_size (kS_le l xs)]; rfl
  have honl : (lst (kS l xs)).all (·.oneCell') = true := lst_one _
  have HSZL := Lib.hid hszl
  have HSZZ := Lib.hid hszz
  have HONL := Lib.hid honl
  clear hszl hszz honl
  generalize fcM (kC l xs) (kW l xs) = fc at *
  generalize cnOf l xs = cn at *
  generalize lst [] = z0 at *
  generalize lst (kS l xs) = lq at *
  generalize kC l xs = cells at *
  generalize kW l xs = W at *
  generalize kH l xs = H at *
  generalize kS l xs = cs at *
  have HOA := Lib.hid hoa
  have HCF := Lib.hid hcf
  clear hoa hcf
  go_enter Tryd.func36, Tryd.ntmps36
  go_wp2_with fail
  refine hrc.mono ?_
  rintro e w1 ⟨a1, c1, rfl, hown1, hb1⟩
  have s1 := hb1.size
  go_upto_region 2 with (refine wpList_store_row rfl _ _ _ rfl (w1.heap.size + 1) lq rfl rfl 63 z0 (heap_alloc2_new w1 _ _) HSZL.out HSZZ.out HONL.out ?_)
  have hs3 : (((w1.alloc (.cells #[.int .i64 W, .int .i64 H, .slice a1 cells.length c1, .bool false] 42)).alloc (.cells z0 63)).setRow (w1.heap.size + 1) lq).heap.size = w1.heap.size + 2 := by simp
  have hG3 : (((w1.alloc (.cells #[.int .i64 W, .int .i64 H, .slice a1 cells.length c1, .bool false] 42)).alloc (.cells z0 63)).setRow (w1.heap.size + 1) lq).heap[w1.heap.size]? = some (.cells #[.int .i64 W, .int .i64 H, .slice a1 cells.length c1, .bool false] 42 (0, 0)) :=
    (setRow_other _ _ _ _ (by omega)).trans (heap_alloc2_old w1 _ _)
  have hL3 : (((w1.alloc (.cells #[.int .i64 W, .int .i64 H, .slice a1 cells.length c1, .bool false] 42)).alloc (.cells z0 63)).setRow (w1.heap.size + 1) lq).heap[w1.heap.size + 1]? = some (.cells lq 63 (0, 0)) :=
    setRow_heap _ _ z0 _ _ _ (heap_alloc2_new w1 _ _)
  have hb3 : Below w1.heap.size w1 (((w1.alloc (.cells #[.int .i64 W, .int .i64 H, .slice a1 cells.length c1, .bool false] 42)).alloc (.cells z0 63)).setRow (w1.heap.size + 1) lq) :=
    below_setRow (((Below.refl _ _).alloc (Nat.le_refl _) _).alloc (by simp) _) (by omega) _
  generalize ((w1.alloc (.cells #[.int .i64 W, .int .i64 H, .slice a1 cells.length c1, .bool false] 42)).alloc (.cells z0 63)).setRow (w1.heap.size + 1) lq = w3 at *
  have hat3 : At w3 a1 (byts cells) := (hown1.later hb3).at
  have hf0 := cell_of_block hG3 0
  have hf1 := cell_of_block hG3 1
  have hf2 := cell_of_block hG3 2
  have hf3 := cell_of_block hG3 3
  simp at hf0 hf1 hf2 hf3
  have HG3 := Lib.hid hG3
  have HL3 := Lib.hid hL3
  have HS3 := Lib.hid hs3
  clear hG3 hL3 hs3
  go_wp2_with (refine wpList_load_row rfl 63 _ rfl (w1.heap.size + 1) rfl 63 lq (0, 0) _ HL3.out Tryd.underlying63 rfl HSZL.out ?_)
  refine (HOA.out _ a1 c1 hat3).mono ?_
  rintro e w4 ⟨b, PL, rfl, hM4, hmem, hbl, hb4⟩
  have s4 := hb4.size
  have hG4 := (hb4.block _ (by have := HS3.out; omega)).trans HG3.out
  have hf0 := cell_of_block hG4 0
  have hf1 := cell_of_block hG4 1
  have hf2 := cell_of_block hG4 2
  have hf3 := cell_of_block hG4 3
  simp at hf0 hf1 hf2 hf3
  have hat4 := hat3.later rfl hb4
  have HCN := Lib.hid (HO.out PL hmem)
  clear hG4
  go_wp2_with fail
  refine (HCF.out _ a1 c1 hat4).mono ?_
  rintro e w5 ⟨a5, c5, rfl, hown5, hb5⟩
  have hM5 := hM4.later hb5
  have hat5 := hown5.at
  have hbw : Below w.heap.size w w5 := ((hb1.trans (hb3.mono s1)).trans (hb4.mono (by have := HS3.out; omega))).trans (hb5.mono (by have := HS3.out; omega))
  clear hM4 hown5 hf0 hf1 hf2 hf3 hat3 hat4 hb1 hb3 hb4 hb5
  go_wp2_with fail
  go_loop [10, 26] (fun n i => ∃ k m : Nat, k ≤ fc.length ∧ i = .int .i64 k ∧ n = .int .i64 m ∧ m ≤ k ∧ Hid (cn = m + cntN PL (fc.drop k))) (fun _ i => fc.length - (intOf i).toNat)
  case atStart => exact ⟨0, 0, Nat.zero_le _, rfl, rfl, Nat.le_refl _, by rw [Hid, HCN.out]; simp⟩
  case round =>
    obtain ⟨k, m, hk, rfl, rfl, hmk, hR⟩ := hrel
    by_cases hlt : k < fc.length
    · have Ht := Lib.hid (List.drop_eq_getElem_cons hlt)
      have hck := HFC.out _ (List.getElem_mem hlt)
      obtain ⟨g, off, he, hcx⟩ := nats_at hat5 k hlt
      subst he
      by_cases hc : fc[k] ∈ PL
      · have Hv : Hid (decide (fc[k] ∈ PL) = true) := decide_eq_true hc
        have HCC := Lib.hid hc
        clear hc
        go_wp2_with (at_lookup; refine wpList_mark_look rfl _ _ rfl b _ rfl hM5 _ rfl (by omega) true Hv.out ?_)
        go_round
        case rel => exact ⟨k + 1, m, by omega, by go_num, rfl, by omega, by rw [Hid, hR.out, Ht.out, cntN_yes HCC.out]⟩
        case measure => simp [intOf]; omega
      · have Hv : Hid (decide (fc[k] ∈ PL) = false) := decide_eq_false hc
        have HCC := Lib.hid hc
        clear hc
        go_wp2_with (at_lookup; refine wpList_mark_look rfl _ _ rfl b _ rfl hM5 _ rfl (by omega) false Hv.out ?_)
        go_round
        case rel => exact ⟨k + 1, m + 1, by omega, by go_num, by go_num, by omega, by rw [Hid, hR.out, Ht.out, cntN_no HCC.out]; omega⟩
        case measure => simp [intOf]; omega
    · obtain rfl : k = fc.length := by omega
      have hm : Hid (cn = m) := by rw [Hid, hR.out, List.drop_length]; rfl
      clear hR
      go_wp2_with fail
      go_ret2
      exact ⟨by rw [hm.out]; rfl, hbw⟩
end Go.Proofs.YtndmkbkmfonefacDoor
