/- Listed boards by the program: their texts; the first board with the greatest sum. -/
import Derived.Test.YthlbplmghjaeoadGKD
import Derived.Outline
namespace Go.Proofs.Ythlbplmghjaeoad
open Go.RowKit

theorem slice12 (b n : Nat) (hn : n ≤ 12) (w : World) : (Instr.sliceAt 44 (.pointer (some ⟨b, 0, none⟩)) none (some (.int .i64 n)) none).run Try.prog w = .ok (.slice (some ⟨b, 0, none⟩) n 12) w := by
  have h1 : (n : Int) ≤ 12 := by omega
  have h2 : (0 : Int) ≤ (n : Int) := by omega
  simp [Instr.sliceAt, Instr.sliceBounds, Instr.sliceBound, Instr.sureAddr, asIntOf, run_underlying Try.underlying44, Try.sizeOf5, h2, Addr.add_lit]
  try omega

set_option maxRecDepth 100000 in
set_option maxHeartbeats 1600000 in
theorem lbText_any (x : LB) (W H : Nat) (cells : List UInt8) (hc : cells = x.1.take (W * H)) (hW : 1 ≤ W ∧ W ≤ 8) (hH : 1 ≤ H ∧ H ≤ 8) (h12 : W * H ≤ 12) (w : World) :
    Calls Try.prog 58 #[.agg (encB x).toArray, .int .i64 W, .int .i64 H] w fun e w' => e = .returned (.string ⟨(textM cells W H).toArray⟩) ∧ Below w.heap.size w w' := by
  have hn : cells.length = W * H := by rw [hc, List.length_take, x.2]; omega
  have htx := fun a cap w hat hcap => text_any W H a cells cap w hat hcap hn (.inr ⟨hW, hH⟩)
  rw [hn] at htx
  have hWH : (W : Int) * (H : Int) = ((W * H : Nat) : Int) := (Int.natCast_mul W H).symm
  have c0 : wrap64 ((W : Int) * (H : Int)) = ((W * H : Nat) : Int) := by rw [hWH]; exact IntWalk.wrap64_in _ ⟨by omega, by omega⟩
  have c1 : IntKind.i64.wrap ((W : Int) * (H : Int)) = ((W * H : Nat) : Int) := by rw [hWH]; exact IntWalk.i64_in _ ⟨by omega, by omega⟩
  have hat : At (w.alloc (.cells (encB x).toArray 46)) (some ⟨w.heap.size, 0, none⟩) (byts cells) := by
    intro k hk
    rw [byts_length, hn] at hk
    refine ⟨w.heap.size, 0, rfl, ?_⟩
    rw [Nat.zero_add, boxB_cell x w _ k (by omega)]
    have hkx : k < x.1.length := by rw [x.2]; omega
    simp [byts, hc, LB.at, List.getD, hkx]
  clear hc c1 hWH
  generalize W * H = n at *
  have HTX := Lib.hid htx
  clear htx
  have hsl := slice12 w.heap.size n h12
  have hb0 : Below w.heap.size w (w.alloc (.cells (encB x).toArray 46)) := (Below.refl _ _).alloc (Nat.le_refl _) _
  go_enter Try.func58, Try.ntmps58
  go_wp2_with fail
  refine (HTX.out _ 12 _ hat (by omega)).mono ?_
  rintro e w2 ⟨rfl, hb2⟩
  go_wp2_with fail
  go_ret
  exact ⟨rfl, hb0.trans (hb2.mono hb0.size)⟩

set_option maxRecDepth 100000 in
set_option maxHeartbeats 1600000 in
theorem fgClosure_any (x : LB) (G : Int) (b : Nat) (w : World) (hc : w.cell? ⟨b, 0, none⟩ = some (.int .i64 G)) :
    Calls Try.prog 57 #[.agg (encB x).toArray, .pointer (some ⟨b, 0, none⟩)] w fun e w' => e = .returned (.bool ((x.sms : Int) == G)) ∧ Below w.heap.size w w' := by
  have HS := Lib.hid (lbSum_any x)
  have hbl := World.block_lt_of_cell? _ _ hc
  simp only at hbl
  go_enter Try.func57, Try.ntmps57
  have hB1 := heap_alloc_new w (.cells (encB x).toArray 46)
  have hR1 : (w.alloc (.cells (encB x).toArray 46)).drew.rangeAt w.heap.size 0 (encB x) := range24 hB1
  have hb1 : Below w.heap.size w (w.alloc (.cells (encB x).toArray 46)) := (Below.refl _ _).alloc (Nat.le_refl _) _
  have hc1 : (w.alloc (.cells (encB x).toArray 46)).drew.cell? ⟨b, 0, none⟩ = some (.int .i64 G) := (hb1.cell (p := ⟨b, 0, none⟩) hbl).trans hc
  clear hB1
  go_wp2_with fail
  generalize hbx : w.heap.size = BX at *
  generalize w.alloc (.cells (encB x).toArray 46) = w1 at *
  refine wp_region_held_drew (S := fun w' => w'.rangeAt BX 0 (encB x) ∧ w'.cell? ⟨b, 0, none⟩ = some (.int .i64 G)) (by kernel_rfl) ⟨hR1, hc1⟩ (fun hH => ?_)
  refine wpAnyH_take (i := 0) (v := .agg (encB x).toArray) rfl (by kernel_rfl) (by kernel_rfl) (by kernel_rfl) (fun _ _ _ h => h) (yieldsIf_load_mid (by rfl) 46 _ rfl BX 0 rfl (encB x) _ (fun _ h => h.1) Try.underlying46 rfl (inf67.trans (by rw [encB_len]))) hH ?_
  simp only [Act.put, List.setIfInBounds_toArray, List.set_cons_zero, List.set_cons_succ]
  refine wpAnyH_take (i := 2) (v := .int .i64 G) rfl (by kernel_rfl) (by kernel_rfl) (by kernel_rfl) (fun _ _ _ h => h) (Or.inl ⟨by rfl, fun w' hS => by have h2 := hS.2; clear hS; go_simp⟩) hH ?_
  simp only [Act.put, List.setIfInBounds_toArray, List.set_cons_zero, List.set_cons_succ]
  refine wpAnyH_ready (rs := [1]) (by kernel_rfl) (by simp) ?_
  refine AllReadyH.cons rfl (fun K hK => ?_) AllReadyH.nil
  go_simp
  refine (HS.out _).mono ?_
  rintro e w2 ⟨rfl, hb2⟩
  go_wp2_with fail
  have hc2 : w2.cell? ⟨b, 0, none⟩ = some (.int .i64 G) := (hb2.cell (p := ⟨b, 0, none⟩) (World.block_lt_of_cell? _ _ hc1)).trans hc1
  refine hK.out _ _ ⟨range_later hR1 hb2, hc2⟩ (fun hH2 => ?_)
  clear hK K hH
  refine wpAnyH_ready (rs := [3]) (by kernel_rfl) (by simp) ?_
  refine AllReadyH.cons rfl (fun K hK => ?_) AllReadyH.nil
  go_simp
  refine hK.out _ _ hH2 (fun hH3 => ?_)
  clear hK K hH3
  refine wpAnyH_ready (rs := [4]) (by kernel_rfl) (by simp) ?_
  refine AllReadyH.cons rfl (fun K hK => ?_) AllReadyH.nil
  go_simp
  refine hK.out _ _ hH2 (fun hH3 => ?_)
  clear hK K hH3
  refine wpAnyH_done (by kernel_rfl) ?_ _
  go_wp2_with fail
  go_ret
  refine ⟨rfl, ?_⟩
  rw [hbx]
  exact hb1.trans ((ofDrew hb2).mono (show BX ≤ w1.heap.size by have := hb1.size; omega))
end Go.Proofs.Ythlbplmghjaeoad
