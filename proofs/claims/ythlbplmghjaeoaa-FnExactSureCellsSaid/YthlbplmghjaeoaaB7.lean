/- Sure cells, by the model and by the program. -/
import Derived.Test.YthlbplmghjaeoaaB6
namespace Go.Proofs.Ythlbplmghjaeoaa
open Go.RowKit

/-- The text of the sure cells; no text where there is no solution. -/
def scT (x y : Int) (cs : List Clu) : List UInt8 := if pzB x y cs = true then (match solC x.toNat (x.toNat * y.toNat) cs with | [] => [] | u :: r => textM (sureL u (u :: r)) x.toNat y.toNat) else []
theorem sc_no {x y : Int} {cs : List Clu} (h : pzB x y cs = false) : scT x y cs = [] ∧ fsB x y cs = false := by simp [scT, fsB, h]
theorem sc_none {W H : Nat} {cs : List Clu} (hs : solC W (W * H) cs = []) : scT W H cs = [] ∧ fsB W H cs = false := by simp [scT, fsB, hs]
theorem sc_yes {W H : Nat} {cs : List Clu} (h : pzB W H cs = true) {u : List UInt8} {r : List (List UInt8)} (hs : solC W (W * H) cs = u :: r) : scT W H cs = textM (sureL u (u :: r)) W H ∧ fsB W H cs = true := by simp [scT, fsB, h, hs]
theorem sure_cells (W n : Nat) (hn : n ≤ 12) (u : List UInt8) (r : List (List UInt8)) (h : ∀ x ∈ u :: r, x.length = n) : sureL u (u :: r) = ((preB W n u).sure ((u :: r).map (preB W n))).1.take n := by
  rw [LB.sure_take n hn, preB_take W n u (h u List.mem_cons_self) hn, List.map_map]
  congr 1
  conv => lhs; rw [← List.map_id (u :: r)]
  apply List.map_congr_left
  intro x hx
  exact (preB_take W n x (h x hx) hn).symm
set_option maxRecDepth 100000 in
set_option maxHeartbeats 1600000 in
theorem iSure_any (x y : Int) (a : Option Addr) (n cap : Nat) (cs : List Clu) (w : World) (hn : n = cs.length) (hat : At w a (flatC cs)) :
    Calls Try.prog 14 #[.agg #[.int .i64 x, .int .i64 y, .slice a n cap]] w fun e w' => e = .returned (.tuple #[.string ⟨(scT x y cs).toArray⟩, .bool (fsB x y cs)]) ∧ Below w.heap.size w w' := by
  subst hn
  have hb : Below w.heap.size w (w.alloc (.cells #[.int .i64 x, .int .i64 y, .slice a cs.length cap] 30)) := (Below.refl _ _).alloc (Nat.le_refl _) _
  have hat1 := hat.later rfl hb
  cases h : pzB x y cs with
  | false =>
    have HN := Lib.hid (sc_no h)
    have HR := Lib.hid (fun w hat => readS_no x y a cs.length cap cs w rfl hat h)
    clear h
    go_enter Try.func14, Try.ntmps14
    go_wp2_with fail
    refine (HR.out _ hat1).mono ?_
    rintro e w1 ⟨rfl, hb1⟩
    have hb2 := hb.trans (hb1.mono hb.size)
    clear hb hb1 hat1 hat
    go_wp2_with fail
    go_ret2
    exact ⟨by rw [HN.out.1, HN.out.2]; rfl, hb2.alloc hb2.size _⟩
  | true =>
    obtain ⟨W, H, rfl, rfl, hW, hH, h9, hs, h8, hc⟩ := pz_yes h
    have HY := Lib.hid (fun u r hs => sc_yes h (u := u) (r := r) hs)
    have HN := Lib.hid (sc_none (W := W) (H := H) (cs := cs))
    have HR := Lib.hid (fun w hat => readS_yes W H a cs.length cap cs w rfl hat h)
    have HL := Lib.hid (fun (u : List UInt8) (r : List (List UInt8)) (hu : solC W (W * H) cs = u :: r) w => lbText_any ((preB W (W * H) u).sure ((u :: r).map (preB W (W * H)))) W H (sureL u (u :: r)) (sure_cells W (W * H) (by omega) u r fun x hx => seqs_len _ x (List.mem_filter.1 (hu ▸ hx : x ∈ solC W (W * H) cs)).1) hW hH (by omega) w)
    have HLE := Lib.hid (solC_le W (W * H) h9 cs)
    clear h hs hc
    generalize solC W (W * H) cs = S at *
    go_enter Try.func14, Try.ntmps14
    go_wp2_with fail
    refine (HR.out _ hat1).mono ?_
    rintro e w1 ⟨v1, u1, rfl, hR1, hO1, hb1⟩
    obtain ⟨a1, c1, hv⟩ := hR1.shape
    subst hv
    obtain ⟨a2, c2, hv⟩ := hO1.shape
    subst hv
    have hb2 := hb.trans (hb1.mono hb.size)
    clear hb hb1 hat1 hat hR1
    cases S with
    | nil =>
      have HN2 := Lib.hid (HN.out rfl)
      clear HN HY
      simp only [List.length_map, List.length_nil]
      go_wp2_with fail
      go_ret2
      exact ⟨by rw [HN2.out.1, HN2.out.2]; rfl, hb2.alloc hb2.size _⟩
    | cons u r =>
      have HY2 := Lib.hid (HY.out u r rfl)
      have HT := Lib.hid (HL.out u r rfl)
      clear HN HY HL
      have hlen : r.length ≤ 1000000 := by have := HLE.out; simp at this; omega
      have hne : ¬ ((r.length : Int) + 1 = 0) := by omega
      have hlt : (0 : Int) < (r.length : Int) + 1 := by omega
      rw [List.map_cons] at hO1 HT
      have HSG := Lib.hid (fun B w' hO' => sureSigns_any (preB W (W * H) u) (r.map (preB W (W * H))) (.slice a2 (((u :: r).map (preB W (W * H))).length) c2) B w' hO' (by simpa using hlen))
      simp only [List.length_map, List.length_cons] at hO1 HSG ⊢
      clear HLE
      go_upto_region 4 with fail
      have hbx : Below w1.heap.size w1 (w1.alloc (.cells #[.int .i64 W, .int .i64 H, .slice a1 cs.length c1] 30)) := (Below.refl _ _).alloc (Nat.le_refl _) _
      have hX := heap_alloc_new w1 (.cells #[.int .i64 W, .int .i64 H, .slice a1 cs.length c1] 30)
      have hO2 := hO1.later hbx
      have hb3 := hb2.trans (hbx.mono hb2.size)
      clear hO1 hbx hb2
      generalize w1.alloc (.cells #[.int .i64 W, .int .i64 H, .slice a1 cs.length c1] 30) = w2 at *
      generalize w1.heap.size = X at *
      have hS : w2.drew.rangeAt X 0 [.int .i64 W, .int .i64 H, .slice a1 cs.length c1] := range3 (cell_of_block hX 0) (cell_of_block hX 1) (cell_of_block hX 2)
      generalize preB W (W * H) u = z at *
      generalize r.map (preB W (W * H)) = zs at *
      refine wp_region_held_drew (S := fun w' => w'.rangeAt X 0 [.int .i64 W, .int .i64 H, .slice a1 cs.length c1]) (by kernel_rfl) hS (fun hH => ?_)
      refine wpAnyH_take (i := 0) (v := _) rfl (by kernel_rfl) (by kernel_rfl) (by kernel_rfl) (fun _ _ _ h => h) (Or.inl ⟨by rfl, fun _ _ => rfl⟩) hH ?_
      simp only [Act.put, List.setIfInBounds_toArray, List.set_cons_zero, List.set_cons_succ]
      refine wpAnyH_take (i := 2) (v := .pointer (some ⟨X, 0, none⟩)) rfl (by kernel_rfl) (by kernel_rfl) (by kernel_rfl) (fun _ _ _ h => h) (Or.inl ⟨by rfl, fun w' _ => by unfold execOp; go_simp⟩) hH ?_
      simp only [Act.put, List.setIfInBounds_toArray, List.set_cons_zero, List.set_cons_succ]
      refine wpAnyH_take (i := 3) (v := .int .i64 W) rfl (by kernel_rfl) (by kernel_rfl) (by kernel_rfl) (fun _ _ _ h => h) (Or.inl ⟨by rfl, fun w' hw => by have p0 := hw 0 _ rfl; unfold execOp; go_simp⟩) hH ?_
      simp only [Act.put, List.setIfInBounds_toArray, List.set_cons_zero, List.set_cons_succ]
      refine wpAnyH_take (i := 4) (v := .pointer (some ⟨X, 1, none⟩)) rfl (by kernel_rfl) (by kernel_rfl) (by kernel_rfl) (fun _ _ _ h => h) (Or.inl ⟨by rfl, fun w' _ => by unfold execOp; go_simp⟩) hH ?_
      simp only [Act.put, List.setIfInBounds_toArray, List.set_cons_zero, List.set_cons_succ]
      refine wpAnyH_take (i := 5) (v := .int .i64 H) rfl (by kernel_rfl) (by kernel_rfl) (by kernel_rfl) (fun _ _ _ h => h) (Or.inl ⟨by rfl, fun w' hw => by have p0 := hw 1 _ rfl; unfold execOp; go_simp⟩) hH ?_
      simp only [Act.put, List.setIfInBounds_toArray, List.set_cons_zero, List.set_cons_succ]
      refine wpAnyH_ready (rs := [1]) (by kernel_rfl) (by simp) ?_
      refine AllReadyH.cons rfl (fun K hK => ?_) AllReadyH.nil
      go_simp
      refine (HSG.out _ w2.drew hO2).mono ?_
      rintro e w3 ⟨rfl, hb4⟩
      have hb5 := hb3.trans ((ofDrewC hb4).mono hb3.size)
      have hS5 := range_later hS hb4
      go_wp2_with fail
      refine hK.out _ _ hS5 (fun hH5 => ?_)
      clear hK K hH
      refine wpAnyH_ready (rs := [6]) (by kernel_rfl) (by simp) ?_
      refine AllReadyH.cons rfl (fun K hK => ?_) AllReadyH.nil
      go_simp
      refine (HT.out _).mono ?_
      rintro e w4 ⟨rfl, hb6⟩
      have hb7 := hb5.trans (hb6.mono hb5.size)
      have hS6 := range_later hS5 hb6
      go_wp2_with fail
      refine hK.out _ _ hS6 (fun hH6 => ?_)
      clear hK K hH5
      refine wpAnyH_ready (rs := [7]) (by kernel_rfl) (by simp) ?_
      refine AllReadyH.cons rfl (fun K hK => ?_) AllReadyH.nil
      go_simp
      refine hK.out _ _ hS6 (fun hH7 => ?_)
      clear hK K hH6
      refine wpAnyH_ready (rs := [8]) (by kernel_rfl) (by simp) ?_
      refine AllReadyH.cons rfl (fun K hK => ?_) AllReadyH.nil
      go_simp
      refine hK.out _ _ hS6 (fun hH8 => ?_)
      clear hK K hH7
      refine wpAnyH_done (by kernel_rfl) ?_ _
      go_wp2_with fail
      go_ret2
      exact ⟨by rw [HY2.out.1, HY2.out.2]; rfl, hb7⟩
theorem textM_mem {W H : Nat} {u : List UInt8} (hW : 1 ≤ W) (hu : u.length = W * H) (hb : Brd2 u) : ∀ c ∈ textM u W H, c.toNat < 128 := by
  rw [← brGo_text W H hW u hu]
  have key : ∀ (v : List UInt8) (k : Nat), Brd2 v → ∀ c ∈ brGo W k v, c.toNat < 128 := by
    intro v
    induction v with
    | nil => intro k _ c hc; simp [brGo] at hc
    | cons d r ih =>
      intro k hv c hc
      rw [brGo, List.mem_append, List.mem_cons] at hc
      rcases hc with hc | rfl | hc
      · split at hc
        · simp at hc; subst hc; decide
        · simp at hc
      · rcases hv c List.mem_cons_self with e | e <;> rw [e] <;> decide
      · exact ih (k + 1) (fun x hx => hv x (List.mem_cons_of_mem _ hx)) c hc
  exact key u 0 hb
theorem texts_facts (W H : Nat) (hW : 1 ≤ W ∧ W ≤ 8) (hH : 1 ≤ H ∧ H ≤ 8) (u : List UInt8) (r : List (List UInt8)) (h : ∀ x ∈ u :: r, x.length = W * H ∧ Brd2 x) :
    textM (sureL u (u :: r)) W H = sureL (textM u W H) ((u :: r).map fun v => textM v W H) ∧ (textM u W H).length ≤ 72 ∧ (∀ t ∈ (u :: r).map (fun v => textM v W H), t.length = (textM u W H).length) ∧ ∀ (k : Nat) (hk : k < (textM u W H).length), ((textM u W H)[k]).toNat < 128 := by
  have hu := h u List.mem_cons_self
  refine ⟨textM_sure hW.1 (u :: r) u hu.1 fun v hv => (h v hv).1, textM_le u W H hW.2 hH.2, fun t ht => ?_, fun k hk => textM_mem hW.1 hu.1 hu.2 _ (List.getElem_mem hk)⟩
  obtain ⟨v, hv, rfl⟩ := List.mem_map.1 ht
  exact textM_len hW.1 hu.1 (h v hv).1
set_option maxRecDepth 100000 in
set_option maxHeartbeats 1600000 in
theorem sSure_any (x y : Int) (a : Option Addr) (n cap : Nat) (cs : List Clu) (w : World) (hn : n = cs.length) (hat : At w a (flatC cs)) :
    Calls Try.prog 13 #[.agg #[.int .i64 x, .int .i64 y, .slice a n cap]] w fun e w' => e = .returned (.tuple #[.string ⟨(scT x y cs).toArray⟩, .bool (fsB x y cs)]) ∧ Below w.heap.size w w' := by
  subst hn
  have hb : Below w.heap.size w (w.alloc (.cells #[.int .i64 x, .int .i64 y, .slice a cs.length cap] 30)) := (Below.refl _ _).alloc (Nat.le_refl _) _
  have hat1 := hat.later rfl hb
  have HP := Lib.hid (fun w hat => pzGood_any x y a cs.length cap cs w rfl hat)
  have hG := heap_alloc_new w (.cells #[.int .i64 x, .int .i64 y, .slice a cs.length cap] 30)
  cases h : pzB x y cs with
  | false =>
    have HN := Lib.hid (sc_no h)
    rw [h] at HP
    clear h hG
    go_enter Try.func13, Try.ntmps13
    go_wp2_with fail
    refine (HP.out _ hat1).mono ?_
    rintro e w1 ⟨rfl, hb1⟩
    have hb2 := hb.trans (hb1.mono hb.size)
    clear hb hb1 hat1 hat
    go_wp2_with fail
    go_ret2
    exact ⟨by rw [HN.out.1, HN.out.2]; rfl, hb2⟩
  | true =>
    rw [h] at HP
    obtain ⟨W, H, rfl, rfl, hW, hH, h9, hs, h8, hc⟩ := pz_yes h
    have HY := Lib.hid (fun u r hs => sc_yes h (u := u) (r := r) hs)
    have HN := Lib.hid (sc_none (W := W) (H := H) (cs := cs))
    have HA := Lib.hid (fun w hat => pzAll_any W H cs.length cap a cs w hW hH h9 rfl h8 hc hat)
    have HLE := Lib.hid (solC_le W (W * H) h9 cs)
    have HT := Lib.hid (fun (u : List UInt8) (r : List (List UInt8)) (hs : solC W (W * H) cs = u :: r) => texts_facts W H hW hH u r fun x hx => ⟨seqs_len _ x (List.mem_filter.1 (hs ▸ hx : x ∈ solC W (W * H) cs)).1, seqs_brd _ x (List.mem_filter.1 (hs ▸ hx : x ∈ solC W (W * H) cs)).1⟩)
    clear h hs hc
    go_enter Try.func13, Try.ntmps13
    go_wp2_with fail
    generalize w.alloc (.cells #[.int .i64 W, .int .i64 H, .slice a cs.length cap] 30) = w0 at *
    refine (HP.out _ hat1).mono ?_
    rintro e w1 ⟨rfl, hb1⟩
    have hb2 := hb.trans (hb1.mono hb.size)
    have hG1 := (hb1.block _ (block_lt hG)).trans hG
    have hat2 := hat1.later rfl hb1
    clear hb hb1 hat1 hat hG
    have f0 := cell_of_block hG1 0
    have f1 := cell_of_block hG1 1
    have f2 := cell_of_block hG1 2
    simp at f0 f1 f2
    clear hG1
    go_wp2_with fail
    refine (HA.out _ hat2).mono ?_
    rintro e w2 ⟨a2, c2, rfl, hown, hb3⟩
    have hb4 := hb2.trans (hb3.mono hb2.size)
    clear hb2 hb3 hat2 f0 f1 f2
    generalize solC W (W * H) cs = S at *
    cases S with
    | nil =>
      have HN2 := Lib.hid (HN.out rfl)
      clear HN HY
      go_wp2_with fail
      go_ret2
      exact ⟨by rw [HN2.out.1, HN2.out.2]; rfl, hb4⟩
    | cons u r =>
      have HY2 := Lib.hid (HY.out u r rfl)
      clear HN HY
      have hr5 : r.length ≤ 512 := by have := HLE.out; simp at this; omega
      clear HLE
      have hne : ¬ ((r.length : Int) + 1 = 0) := by omega
      have hlt : (0 : Int) < (r.length : Int) + 1 := by omega
      obtain ⟨b, off, rfl, hcell⟩ := txts_at hown.at 0 (by simp)
      simp only [List.map_cons, List.getElem_cons_zero, Nat.add_zero] at hcell
      simp only [List.length_cons]
      have hat3 := hown.at
      have hI : (w2.iter ⟨(textM u W H).toArray⟩ 0).heap[w2.heap.size]? = some (.stringIter ⟨(textM u W H).toArray⟩ 0) := World.iter_heap w2 _ _
      have hbi : Below w.heap.size w (w2.iter ⟨(textM u W H).toArray⟩ 0) := hb4.alloc hb4.size _
      have hba : Below w2.heap.size w2 (w2.iter ⟨(textM u W H).toArray⟩ 0) := (Below.refl w2.heap.size w2).alloc (Nat.le_refl _) _
      go_wp2_with fail
      generalize w2.iter ⟨(textM u W H).toArray⟩ 0 = w4 at *
      have hI2 : w2.heap.size < w4.heap.size := block_lt hI
      have hbI : w.heap.size ≤ w2.heap.size := hb4.size
      have HSS := Lib.hid (HT.out u r rfl)
      have htl : Hid (((u :: r).map (fun v => textM v W H)).length = r.length + 1) := by rw [Hid]; simp
      have ht0 : Hid (((u :: r).map (fun v => textM v W H))[0]? = some (textM u W H)) := rfl
      generalize (u :: r).map (fun v => textM v W H) = ts at *
      generalize textM u W H = t at *
      clear hown hcell hb4 HT
      have HCE : Hid (∀ wr : World, Below w2.heap.size w4 wr → ∀ (k : Nat) (hk : k < ts.length), wr.cell? ⟨b, off + k, none⟩ = some (.string ⟨ts[k].toArray⟩)) := fun wr hb k hk => by
        obtain ⟨b', o', e, hc⟩ := txts_at (hat3.later rfl (hba.trans hb)) k hk
        obtain ⟨rfl, rfl⟩ : b = b' ∧ off = o' := by simpa using e
        exact hc
      clear hat3 hba
      generalize w2.heap.size = I at *
      go_loopw [5] (fun s wr => ∃ j : Nat, j ≤ t.length ∧ s = .string ⟨((sureL t ts).take j).toArray⟩ ∧ Hid (wr.heap[I]? = some (.stringIter ⟨t.toArray⟩ j)) ∧ Below I w4 wr) (fun _ wr => t.length - wr.iterPos I)
      case atStart => exact ⟨0, Nat.zero_le _, rfl, hI, Below.refl _ _⟩
      case round =>
        clear hI hI2
        obtain ⟨j, hj, rfl, hIr, hb⟩ := hrel
        have hIlt := block_lt hIr.out
        by_cases hlt : j < t.length
        · have hasc := HSS.out.2.2.2 j hlt
          have hl72 := HSS.out.2.1
          have hnx := fun ty => Lib.run_next_ascii_at (P := Try.prog) wr I ⟨t.toArray⟩ j ty hIr.out (by simpa [ByteArray.size] using hlt) (by simpa using hasc)
          have hpos := Lib.hid (iterPos_at hIr.out)
          have i1 := iterAt_at hIlt ⟨t.toArray⟩ (j + 1)
          have i2 := iterAt_below wr I ⟨t.toArray⟩ (j + 1)
          have hb2 := hb.trans i2
          have h0 : Hid (∀ wr : World, Below I w4 wr → wr.cell? ⟨b, off, none⟩ = some (.string ⟨t.toArray⟩)) := fun wr hb => by
            have h1 := HCE.out wr hb 0 (by rw [htl.out]; omega)
            have h2 := ht0.out
            rw [List.getElem?_eq_getElem (by rw [htl.out]; omega)] at h2
            rw [Option.some.inj h2] at h1
            exact h1
          have hc0 := h0.out _ hb2
          have hLL : (sureL t ts).length = t.length := sureL_length ts t HSS.out.2.2.1
          have HNX : Hid ((sureL t ts).take (j + 1) = (sureL t ts).take j ++ [suS t ts j]) := by
            rw [Hid, sureL_eq ts t HSS.out.2.2.1, ← List.map_take, ← List.map_take, List.take_range, List.take_range, show min (j + 1) t.length = j + 1 by omega, show min j t.length = j by omega, List.range_succ, List.map_append]
            rfl
          have hAl : ((sureL t ts).take j).length ≤ 72 := by rw [List.length_take]; omega
          have htk : ∀ x : List UInt8, x.length = t.length → List.take 1 (List.drop j x) = [x.getD j 0] := fun x hx => by
            rw [List.drop_eq_getElem_cons (by omega), List.take_succ_cons, List.take_zero, List.getD_eq_getElem?_getD, List.getElem?_eq_getElem (by omega), Option.getD_some]
          have HTK := Lib.hid htk
          have HALL : Hid (∀ x ∈ ts, x.length = t.length) := HSS.out.2.2.1
          clear hasc hLL htk
          go_wp2_with fail
          rw [HTK.out t rfl]
          have HSU : Hid (suS t ts j = if (ts.all fun x => x.getD j 0 == t.getD j 0) = true then t.getD j 0 else 63) := rfl
          generalize t.getD j 0 = c at *
          generalize hA : (sureL t ts).take j = A at *
          have hadd : ¬ (9223372036854775807 < A.length + 1) := by omega
          clear hnx hA
          go_loop [7, 34] (fun v i => ∃ k : Nat, k ≤ r.length + 1 ∧ i = .int .i64 k ∧ v = .string ⟨#[c]⟩ ∧ Hid (((ts.take k).all fun x => x.getD j 0 == c) = true)) (fun _ i => r.length + 1 - (intOf i).toNat)
          case atStart => exact ⟨0, Nat.zero_le _, rfl, rfl, rfl⟩
          case round =>
            obtain ⟨k, hk, rfl, rfl, hall⟩ := hrel
            by_cases hkl : k < r.length + 1
            · have hkt : k < ts.length := by rw [htl.out]; exact hkl
              have hck := HCE.out _ hb2 k hkt
              have hxl : ts[k].length = t.length := HALL.out _ (List.getElem_mem hkt)
              have hxk := HTK.out _ hxl
              have hji : (k : Int) < (r.length : Int) + 1 := by omega
              have hjx : ¬ (ts[k].length < j + 1) := by omega
              have HX : Hid (((ts.take (k + 1)).all fun x => x.getD j 0 == c) = (ts[k].getD j 0 == c)) := by
                rw [Hid, List.take_succ_eq_append_getElem hkt, List.all_append, hall.out]; simp
              have HIN : Hid (ts[k] ∈ ts) := List.getElem_mem hkt
              generalize ts[k] = x at *
              have hxj : j < x.length := by omega
              have hg : x.getD j 0 = x[j] := by rw [List.getD_eq_getElem?_getD, List.getElem?_eq_getElem hxj, Option.getD_some]
              rw [hg] at HX
              have HG := Lib.hid hg
              clear hg
              cases d : (!(x[j] == c)) with
              | false =>
                have hxc : (x[j] == c) = true := by simpa using d
                have HA1 : Hid (((ts.take (k + 1)).all fun x => x.getD j 0 == c) = true) := HX.out.trans hxc
                clear HX HG HIN hall hxc
                go_wp2_with fail
                go_round
                case rel => exact ⟨k + 1, by omega, by go_num, rfl, HA1⟩
                case measure => simp [intOf]; omega
              | true =>
                have hxc : (x[j] == c) = false := by simpa using d
                have HS1 : Hid (suS t ts j = 63) := by
                  rw [Hid, HSU.out, if_neg]
                  intro ha
                  have := List.all_eq_true.1 ha x HIN.out
                  rw [HG.out, hxc] at this
                  cases this
                clear HX HG HIN hall hxc
                go_wp2_with fail
                go_roundw
                case rel => exact ⟨j + 1, by omega, by rw [HNX.out, HS1.out], i1, hb2⟩
                case measure => rw [hpos.out, iterPos_at i1]; omega
            · obtain rfl : k = r.length + 1 := by omega
              have HS1 : Hid (suS t ts j = c) := by
                rw [Hid, HSU.out, if_pos]
                have := hall.out
                rwa [← htl.out, List.take_length] at this
              clear hall
              go_wp2_with fail
              go_roundw
              case rel => exact ⟨j + 1, by omega, by rw [HNX.out, HS1.out], i1, hb2⟩
              case measure => rw [hpos.out, iterPos_at i1]; omega
        · obtain rfl : j = t.length := by omega
          have hnx := fun ty => Lib.run_next_end_at (P := Try.prog) wr I ⟨t.toArray⟩ t.length ty hIr.out (by simp [ByteArray.size])
          have hB9 := hbi.trans (hb.mono hbI)
          have HF : Hid ((sureL t ts).take t.length = sureL t ts) := by
            rw [Hid, List.take_of_length_le]
            rw [sureL_length ts t HSS.out.2.2.1]
            exact Nat.le_refl _
          have HE := Lib.hid HSS.out.1
          rw [HF.out]
          go_wp2_with fail
          clear hnx
          go_ret2
          exact ⟨by rw [HY2.out.1, HY2.out.2, HE.out]; rfl, hB9⟩
end Go.Proofs.Ythlbplmghjaeoaa
