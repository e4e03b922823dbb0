/- A puzzle that is read with its solutions, by the program. -/
import Derived.Test.YthlbplmghjaeoaaAK
import Derived.Test.YthlbplmghjaeoaaAB
namespace Go.Proofs.Ythlbplmghjaeoaa
open Go.RowKit

theorem OwnsB.heaps {w w' : World} {B : Nat} {v : Value} {L : List LB} (h : OwnsB w B v L) (hb : ∀ (g : Nat) (cur : Array Value), w.heap[g]? = some (Obj.cells cur 58 (0, 0)) → w'.heap[g]? = w.heap[g]?) : OwnsB w' B v L := by
  obtain ⟨h1, h2⟩ := h
  refine ⟨h1, ?_⟩
  rcases h2 with h2 | ⟨g, cap, cur, hv, hg, hh, r⟩
  · exact .inl h2
  · exact .inr ⟨g, cap, cur, hv, hg, (hb g cur hh).trans hh, r⟩
theorem OwnsB.put {w : World} {B g j : Nat} {v u : Value} {L : List LB} {cur : Array Value} {fr : Nat × Nat} (h : OwnsB w B v L) (hg : w.heap[g]? = some (.cells cur 30 fr)) : OwnsB (w.setCell ⟨g, j, none⟩ u) B v L :=
  h.heaps fun g' cur' hh => away_setC (by rintro rfl; rw [hg] at hh; simp at hh)
theorem OwnsB.put3 {w : World} {B g : Nat} {v x y z : Value} {L : List LB} {cur : Array Value} {fr : Nat × Nat} (h : OwnsB w B v L) (hg : w.heap[g]? = some (.cells cur 30 fr)) : OwnsB (((w.setCell ⟨g, 0, none⟩ x).setCell ⟨g, 1, none⟩ y).setCell ⟨g, 2, none⟩ z) B v L :=
  ((h.put hg).put (block_set hg 0 x)).put (block_set (block_set hg 0 x) 1 y)
theorem res_trio {P : Program} {fn : Func} {p u v : Tmp} {ty : TypeId} (h : fn.results = #[.cell p ty, .tmp u, .tmp v]) (tmps : Array Value) (w : World) (g : Nat) (t : TypeId) (cs : Array Value) (fr : Nat × Nat) (d : TypeDesc) (b c : Value)
    (hp : tmps.getD p undef = .pointer (some ⟨g, 0, none⟩)) (hg : w.heap[g]? = some (.cells cs t fr)) (hu : P.underlying ty = some d) (hd : (match d with | .struct _ | .array _ _ => true | _ => false) = true) (hi : (P.info? ty).map (·.size) = some cs.size)
    (hb : tmps.getD u undef = b) (hc : tmps.getD v undef = c) : (results fn tmps).run P w = .ok (.tuple #[.agg cs, b, c]) w := by
  have hp' : tmps[p]?.getD undef = .pointer (some ⟨g, 0, none⟩) := by simpa using hp
  have hb' : tmps[u]?.getD undef = b := by simpa using hb
  have hc' : tmps[v]?.getD undef = c := by simpa using hc
  rw [results, h]
  simp [hp', hb', hc', asAddr, Result.andThen, run_loadVar_row w g t ty cs fr d hg hu hd hi]
set_option maxRecDepth 100000 in
set_option maxHeartbeats 1600000 in
theorem readS_no (x y : Int) (a : Option Addr) (n cap : Nat) (cs : List Clu) (w : World) (hn : n = cs.length) (hat : At w a (flatC cs)) (h : pzB x y cs = false) :
    Calls Try.prog 26 #[.agg #[.int .i64 x, .int .i64 y, .slice a n cap]] w fun e w' => e = .returned (.tuple #[.agg #[.int .i64 0, .int .i64 0, .slice none 0 0], .slice none 0 0, .bool false]) ∧ Below w.heap.size w w' := by
  subst hn
  have HR := Lib.hid (fun w hat => readP_no x y a cs.length cap cs w rfl hat h)
  have hb : Below w.heap.size w ((w.alloc (.cells #[.int .i64 x, .int .i64 y, .slice a cs.length cap] 30)).alloc (.cells #[.int .i64 0, .int .i64 0, .slice none 0 0] 30)) := ((Below.refl _ _).alloc (Nat.le_refl _) _).alloc (by simp) _
  have hE := blk1 w (.cells #[.int .i64 x, .int .i64 y, .slice a cs.length cap] 30) (.cells #[.int .i64 0, .int .i64 0, .slice none 0 0] 30)
  have hat1 := hat.later rfl hb
  clear h hat
  go_enter Try.func26, Try.ntmps26
  go_wp2_with fail
  generalize (w.alloc (.cells #[.int .i64 x, .int .i64 y, .slice a cs.length cap] 30)).alloc (.cells #[.int .i64 0, .int .i64 0, .slice none 0 0] 30) = w1 at *
  refine (HR.out _ hat1).mono ?_
  rintro e w2 ⟨rfl, hb2⟩
  have hB2 := hb.trans (hb2.mono hb.size)
  have hE2 := (hb2.block _ (block_lt hE)).trans hE
  clear hb hb2 hat1 hE
  have hb3 : Below w2.heap.size w2 (w2.alloc (.cells #[.int .i64 0, .int .i64 0, .slice none 0 0] 30)) := (Below.refl _ _).alloc (Nat.le_refl _) _
  have hE3 := (hb3.block _ (block_lt hE2)).trans hE2
  have hB3 := hB2.trans (hb3.mono hB2.size)
  have HE3 := Lib.hid hE3
  have z0 := cell_of_block hE3 0
  have z1 := cell_of_block hE3 1
  have z2 := cell_of_block hE3 2
  have zf := frozen_of_block hE3
  simp at z0 z1 z2
  clear hE2 hE3 hb3 hB2
  go_wp2_with fail
  obtain ⟨hE5, hb5⟩ := puzzle_stored (B := w.heap.size) HE3.out (by omega) (.int .i64 0) (.int .i64 0) (.slice none 0 0)
  exact bodyPost_ret (res_trio rfl _ _ _ _ _ _ _ _ _ rfl hE5 Try.underlying30 rfl infPuz rfl rfl) rfl ⟨rfl, hB3.trans hb5⟩
set_option maxRecDepth 100000 in
set_option maxHeartbeats 3200000 in
theorem readS_yes (W H : Nat) (a : Option Addr) (n cap : Nat) (cs : List Clu) (w : World) (hn : n = cs.length) (hat : At w a (flatC cs)) (h : pzB W H cs = true) :
    Calls Try.prog 26 #[.agg #[.int .i64 W, .int .i64 H, .slice a n cap]] w fun e w' => ∃ v u, e = .returned (.tuple #[.agg #[.int .i64 W, .int .i64 H, v], u, .bool true]) ∧ RowC w' w.heap.size v cs ∧ OwnsB w' w.heap.size u ((solC W (W * H) cs).map (preB W (W * H))) ∧ Below w.heap.size w w' := by
  subst hn
  obtain ⟨W', H', hw, hh, hW, hH, h9, hs, h8, hc⟩ := pz_yes h
  obtain rfl : W = W' := by omega
  obtain rfl : H = H' := by omega
  have HR := Lib.hid (fun w hat => readP_yes W H a cs.length cap cs w hW hH hs rfl h8 hc hat)
  have HS := Lib.hid (fun a' cap' w hat => solutions_any W H cs.length cap' a' cs w hW hH h9 rfl (by omega) hc hat)
  have hb : Below w.heap.size w ((w.alloc (.cells #[.int .i64 W, .int .i64 H, .slice a cs.length cap] 30)).alloc (.cells #[.int .i64 0, .int .i64 0, .slice none 0 0] 30)) := ((Below.refl _ _).alloc (Nat.le_refl _) _).alloc (by simp) _
  have hE := blk1 w (.cells #[.int .i64 W, .int .i64 H, .slice a cs.length cap] 30) (.cells #[.int .i64 0, .int .i64 0, .slice none 0 0] 30)
  have hat1 := hat.later rfl hb
  clear h hat hs hc
  generalize (solC W (W * H) cs).map (preB W (W * H)) = L at *
  go_enter Try.func26, Try.ntmps26
  go_wp2_with fail
  generalize (w.alloc (.cells #[.int .i64 W, .int .i64 H, .slice a cs.length cap] 30)).alloc (.cells #[.int .i64 0, .int .i64 0, .slice none 0 0] 30) = w1 at *
  refine (HR.out _ hat1).mono ?_
  rintro e w2 ⟨v1, rfl, hR2, hb2⟩
  obtain ⟨a1, c1, hv⟩ := hR2.shape
  subst hv
  have hB2 := hb.trans (hb2.mono hb.size)
  have hR2 := hR2.mono hb.size
  have hE2 := (hb2.block _ (block_lt hE)).trans hE
  clear hb hb2 hat1 hE
  go_upto_region 4 with fail
  have hb3 : Below w2.heap.size w2 (w2.alloc (.cells #[.int .i64 W, .int .i64 H, .slice a1 cs.length c1] 30)) := (Below.refl _ _).alloc (Nat.le_refl _) _
  have hX3 := heap_alloc_new w2 (.cells #[.int .i64 W, .int .i64 H, .slice a1 cs.length c1] 30)
  have hE3 := (hb3.block _ (block_lt hE2)).trans hE2
  have hB3 := hB2.trans (hb3.mono hB2.size)
  have hR3 := hR2.below hb3
  have hGlt : w.heap.size + 1 < w2.heap.size := block_lt hE2
  clear hB2 hE2 hb3 hR2
  generalize w2.alloc (.cells #[.int .i64 W, .int .i64 H, .slice a1 cs.length c1] 30) = w3 at *
  generalize w2.heap.size = G at *
  have hX3d : w3.drew.rangeAt G 0 [.int .i64 W, .int .i64 H, .slice a1 cs.length c1] := range3 (cell_of_block hX3 0) (cell_of_block hX3 1) (cell_of_block hX3 2)
  have hR3d : RowC w3.drew w.heap.size (.slice a1 cs.length c1) cs := hR3
  refine wp_region_held_drew (S := fun w' => w'.rangeAt G 0 [.int .i64 W, .int .i64 H, .slice a1 cs.length c1]) (by kernel_rfl) hX3d (fun hH => ?_)
  refine wpAnyH_take (i := 0) (v := .agg #[.int .i64 W, .int .i64 H, .slice a1 cs.length c1]) rfl (by kernel_rfl) (by kernel_rfl) (by kernel_rfl) (fun _ _ _ h => h) (yieldsIf_load_mid (by rfl) 30 _ rfl G 0 rfl [.int .i64 W, .int .i64 H, .slice a1 cs.length c1] _ (fun _ h => h) Try.underlying30 rfl infPuz) hH ?_
  refine wpAnyH_take (i := 1) (v := .agg #[.int .i64 W, .int .i64 H, .slice a1 cs.length c1]) rfl (by kernel_rfl) (by kernel_rfl) (by kernel_rfl) (fun _ _ _ h => h) (yieldsIf_load_mid (by rfl) 30 _ rfl G 0 rfl [.int .i64 W, .int .i64 H, .slice a1 cs.length c1] _ (fun _ h => h) Try.underlying30 rfl infPuz) hH ?_
  simp only [Act.put, List.setIfInBounds_toArray, List.set_cons_zero, List.set_cons_succ]
  refine wpAnyH_ready (rs := [2]) (by kernel_rfl) (by simp) ?_
  refine AllReadyH.cons rfl (fun K hK => ?_) AllReadyH.nil
  go_simp
  refine (HS.out _ _ _ hR3d.at).mono ?_
  rintro e w4 ⟨v4, rfl, hO4, hb4⟩
  go_wp2_with fail
  obtain ⟨a4, c4, hv⟩ := hO4.shape
  subst hv
  have hX4 := range_later hX3d hb4
  have hE4 := (hb4.block _ (block_lt hE3)).trans hE3
  have hB4 := hB3.trans ((ofDrewC hb4).mono hB3.size)
  have hR4 := hR3.below (ofDrewC hb4)
  have hO4 := hO4.mono (show w.heap.size ≤ w3.drew.heap.size from hB3.size)
  refine hK.out _ _ hX4 (fun hH4 => ?_)
  clear hK K hH
  have HE4 := Lib.hid hE4
  have z0 := cell_of_block hE4 0
  have z1 := cell_of_block hE4 1
  have z2 := cell_of_block hE4 2
  have zf := frozen_of_block hE4
  simp at z0 z1 z2
  refine wpAnyH_ready (rs := [3]) (by kernel_rfl) (by simp) ?_
  refine AllReadyH.cons rfl (fun K hK => ?_) AllReadyH.nil
  go_simp
  have hGs : w.heap.size + 1 < G := hGlt
  obtain ⟨hE5, hb5⟩ := puzzle_stored (B := w.heap.size) HE4.out (by omega) (.int .i64 W) (.int .i64 H) (.slice a1 cs.length c1)
  have hX5 : World.rangeAt (((w4.setCell ⟨w.heap.size + 1, 0, none⟩ (.int .i64 W)).setCell ⟨w.heap.size + 1, 1, none⟩ (.int .i64 H)).setCell ⟨w.heap.size + 1, 2, none⟩ (.slice a1 cs.length c1)) G 0 [.int .i64 W, .int .i64 H, .slice a1 cs.length c1] := range_heap hX4 ((away_setC (show G ≠ w.heap.size + 1 by omega)).trans ((away_setC (show G ≠ w.heap.size + 1 by omega)).trans (away_setC (show G ≠ w.heap.size + 1 by omega))))
  refine hK.out _ _ hX5 (fun hH5 => ?_)
  clear hK K hH4
  refine wpAnyH_ready (rs := [4]) (by kernel_rfl) (by simp) ?_
  refine AllReadyH.cons rfl (fun K hK => ?_) AllReadyH.nil
  go_simp
  refine hK.out _ _ hX5 (fun hH6 => ?_)
  clear hK K hH5
  refine wpAnyH_ready (rs := [5]) (by kernel_rfl) (by simp) ?_
  refine AllReadyH.cons rfl (fun K hK => ?_) AllReadyH.nil
  go_simp
  refine hK.out _ _ hX5 (fun hH7 => ?_)
  clear hK K hH6
  refine wpAnyH_done (by kernel_rfl) ?_ _
  go_wp2_with fail
  exact bodyPost_ret (res_trio rfl _ _ _ _ _ _ _ _ _ rfl hE5 Try.underlying30 rfl infPuz rfl rfl) rfl ⟨_, _, rfl, hR4.put3 HE4.out, hO4.put3 HE4.out, hB4.trans hb5⟩
end Go.Proofs.Ythlbplmghjaeoaa
