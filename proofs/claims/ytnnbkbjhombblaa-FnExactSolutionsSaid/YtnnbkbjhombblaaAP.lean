/- The first solution, by the model and by the program. -/
import Derived.Test.YtnnbkbjhombblaaAN
import Derived.Test.YtnnbkbjhombblaaKG
namespace Go.Proofs.Ytnnbkbjhombblaa
open Go.RowKit

/-- The signs of a listed board. -/
theorem preB_take (W n : Nat) (u : List UInt8) (hu : u.length = n) (hn : n ≤ 12) : (preB W n u).1.take n = u := by
  show (preP W n u).take n = u
  unfold preP
  rw [List.take_append_of_le_length (by simp; omega)]
  apply List.ext_getElem
  · simp; omega
  · intro i h1 h2
    simp [h2]
/-- The text of the first solution; no text where there is none. -/
def fsT (x y : Int) (cs : List Clu) : List UInt8 := if pzB x y cs = true then (match solC x.toNat (x.toNat * y.toNat) cs with | [] => [] | u :: _ => textM u x.toNat y.toNat) else []
/-- Is there a solution? -/
def fsB (x y : Int) (cs : List Clu) : Bool := pzB x y cs && !(solC x.toNat (x.toNat * y.toNat) cs).isEmpty
theorem fs_no {x y : Int} {cs : List Clu} (h : pzB x y cs = false) : fsT x y cs = [] ∧ fsB x y cs = false := by simp [fsT, fsB, h]
theorem fs_none {W H : Nat} {cs : List Clu} (hs : solC W (W * H) cs = []) : fsT W H cs = [] ∧ fsB W H cs = false := by simp [fsT, fsB, hs]
theorem fs_yes {W H : Nat} {cs : List Clu} (h : pzB W H cs = true) {u : List UInt8} {r : List (List UInt8)} (hs : solC W (W * H) cs = u :: r) : fsT W H cs = textM u W H ∧ fsB W H cs = true := by simp [fsT, fsB, h, hs]
set_option maxRecDepth 100000 in
set_option maxHeartbeats 1600000 in
theorem sFirst_any (x y : Int) (a : Option Addr) (n cap : Nat) (cs : List Clu) (w : World) (hn : n = cs.length) (hat : At w a (flatC cs)) :
    Calls Try.prog 29 #[.agg #[.int .i64 x, .int .i64 y, .slice a n cap]] w fun e w' => e = .returned (.tuple #[.string ⟨(fsT x y cs).toArray⟩, .bool (fsB x y cs)]) ∧ Below w.heap.size w w' := by
  subst hn
  have hb : Below w.heap.size w (w.alloc (.cells #[.int .i64 x, .int .i64 y, .slice a cs.length cap] 35)) := (Below.refl _ _).alloc (Nat.le_refl _) _
  have hat1 := hat.later rfl hb
  have HP := Lib.hid (fun w hat => pzGood_any x y a cs.length cap cs w rfl hat)
  have hG := heap_alloc_new w (.cells #[.int .i64 x, .int .i64 y, .slice a cs.length cap] 35)
  cases h : pzB x y cs with
  | false =>
    have HN := Lib.hid (fs_no h)
    rw [h] at HP
    clear h hG
    go_enter Try.func29, Try.ntmps29
    go_wp2_with fail
    refine (HP.out _ hat1).mono ?_
    rintro e w1 ⟨rfl, hb1⟩
    have hb2 := hb.trans (hb1.mono hb.size)
    clear hb hb1 hat1 hat
    go_wp2_with fail
    go_ret2
    exact ⟨by rw [HN.out.1, HN.out.2]; rfl, hb2⟩
  | true =>
    rw [h] at HP
    obtain ⟨W, H, rfl, rfl, hW, hH, h9, hs, h8, hc⟩ := pz_yes h
    have HY := Lib.hid (fun u r hs => fs_yes h (u := u) (r := r) hs)
    have HN := Lib.hid (fs_none (W := W) (H := H) (cs := cs))
    have HA := Lib.hid (fun w hat => pzAll_any W H cs.length cap a cs w hW hH h9 rfl h8 hc hat)
    clear h hs hc
    go_enter Try.func29, Try.ntmps29
    go_wp2_with fail
    generalize w.alloc (.cells #[.int .i64 W, .int .i64 H, .slice a cs.length cap] 35) = w0 at *
    refine (HP.out _ hat1).mono ?_
    rintro e w1 ⟨rfl, hb1⟩
    have hb2 := hb.trans (hb1.mono hb.size)
    have hG1 := (hb1.block _ (block_lt hG)).trans hG
    have hat2 := hat1.later rfl hb1
    clear hb hb1 hat1 hat hG
    have f0 := cell_of_block hG1 0
    have f1 := cell_of_block hG1 1
    have f2 := cell_of_block hG1 2
    simp at f0 f1 f2
    clear hG1
    go_wp2_with fail
    refine (HA.out _ hat2).mono ?_
    rintro e w2 ⟨a2, c2, rfl, hown, hb3⟩
    have hb4 := hb2.trans (hb3.mono hb2.size)
    clear hb2 hb3 hat2 f0 f1 f2
    generalize solC W (W * H) cs = S at *
    cases S with
    | nil =>
      have HN2 := Lib.hid (HN.out rfl)
      clear HN HY
      go_wp2_with fail
      go_ret2
      exact ⟨by rw [HN2.out.1, HN2.out.2]; rfl, hb4⟩
    | cons u r =>
      have HY2 := Lib.hid (HY.out u r rfl)
      clear HN HY
      obtain ⟨b, off, rfl, hcell⟩ := txts_at hown.at 0 (by simp)
      simp only [List.map_cons, List.getElem_cons_zero, Nat.add_zero] at hcell
      have hne : ¬ ((r.length : Int) + 1 = 0) := by omega
      have hlt : (0 : Int) < (r.length : Int) + 1 := by omega
      simp only [List.length_cons]
      go_wp2_with fail
      go_ret2
      exact ⟨by rw [HY2.out.1, HY2.out.2]; rfl, hb4⟩
set_option maxRecDepth 100000 in
set_option maxHeartbeats 1600000 in
theorem iFirst_any (x y : Int) (a : Option Addr) (n cap : Nat) (cs : List Clu) (w : World) (hn : n = cs.length) (hat : At w a (flatC cs)) :
    Calls Try.prog 30 #[.agg #[.int .i64 x, .int .i64 y, .slice a n cap]] w fun e w' => e = .returned (.tuple #[.string ⟨(fsT x y cs).toArray⟩, .bool (fsB x y cs)]) ∧ Below w.heap.size w w' := by
  subst hn
  have hb : Below w.heap.size w (w.alloc (.cells #[.int .i64 x, .int .i64 y, .slice a cs.length cap] 35)) := (Below.refl _ _).alloc (Nat.le_refl _) _
  have hat1 := hat.later rfl hb
  cases h : pzB x y cs with
  | false =>
    have HN := Lib.hid (fs_no h)
    have HR := Lib.hid (fun w hat => readS_no x y a cs.length cap cs w rfl hat h)
    clear h
    go_enter Try.func30, Try.ntmps30
    go_wp2_with fail
    refine (HR.out _ hat1).mono ?_
    rintro e w1 ⟨rfl, hb1⟩
    have hb2 := hb.trans (hb1.mono hb.size)
    clear hb hb1 hat1 hat
    go_wp2_with fail
    go_ret2
    exact ⟨by rw [HN.out.1, HN.out.2]; rfl, hb2.alloc hb2.size _⟩
  | true =>
    obtain ⟨W, H, rfl, rfl, hW, hH, h9, hs, h8, hc⟩ := pz_yes h
    have HY := Lib.hid (fun u r hs => fs_yes h (u := u) (r := r) hs)
    have HN := Lib.hid (fs_none (W := W) (H := H) (cs := cs))
    have HR := Lib.hid (fun w hat => readS_yes W H a cs.length cap cs w rfl hat h)
    have HL := Lib.hid (fun u (hu : u ∈ solC W (W * H) cs) w => lbText_any (preB W (W * H) u) W H u (preB_take W (W * H) u (seqs_len _ u (List.mem_filter.1 hu).1) (by omega)).symm hW hH (by omega) w)
    clear h hs hc
    generalize solC W (W * H) cs = S at *
    go_enter Try.func30, Try.ntmps30
    go_wp2_with fail
    refine (HR.out _ hat1).mono ?_
    rintro e w1 ⟨v1, u1, rfl, hR1, hO1, hb1⟩
    obtain ⟨a1, c1, hv⟩ := hR1.shape
    subst hv
    obtain ⟨a2, c2, hv⟩ := hO1.shape
    subst hv
    have hb2 := hb.trans (hb1.mono hb.size)
    clear hb hb1 hat1 hat hR1
    cases S with
    | nil =>
      have HN2 := Lib.hid (HN.out rfl)
      clear HN HY
      simp only [List.length_map, List.length_nil]
      go_wp2_with fail
      go_ret2
      exact ⟨by rw [HN2.out.1, HN2.out.2]; rfl, hb2.alloc hb2.size _⟩
    | cons u r =>
      have HY2 := Lib.hid (HY.out u r rfl)
      have HT := Lib.hid (HL.out u List.mem_cons_self)
      clear HN HY HL
      obtain ⟨g, cb, cur, hv, hg1, hg2, hgb, hgc, hgs, hgr⟩ := hO1.open (by simp)
      have hr0 := hgr 0 (by simp)
      simp only [List.length_map, List.length_cons] at hv hgc ⊢
      simp only [List.map_cons, List.getElem_cons_zero, Nat.zero_mul] at hr0
      obtain ⟨rfl, rfl⟩ : a2 = some ⟨g, 0, none⟩ ∧ c2 = cb := by simpa using hv
      have hne : ¬ ((r.length : Int) + 1 = 0) := by omega
      have hlt : (0 : Int) < (r.length : Int) + 1 := by omega
      go_upto_region 4 with fail
      have hbx : Below w1.heap.size w1 (w1.alloc (.cells #[.int .i64 W, .int .i64 H, .slice a1 cs.length c1] 35)) := (Below.refl _ _).alloc (Nat.le_refl _) _
      have hX := heap_alloc_new w1 (.cells #[.int .i64 W, .int .i64 H, .slice a1 cs.length c1] 35)
      have hr1 := range_later hr0 hbx
      have hb3 := hb2.trans (hbx.mono hb2.size)
      clear hO1 hgr hgb hgs hr0 hbx hb2
      generalize w1.alloc (.cells #[.int .i64 W, .int .i64 H, .slice a1 cs.length c1] 35) = w2 at *
      generalize w1.heap.size = X at *
      have hS : w2.drew.rangeAt g 0 (encB (preB W (W * H) u)) ∧ w2.drew.rangeAt X 0 [.int .i64 W, .int .i64 H, .slice a1 cs.length c1] := ⟨hr1, range3 (cell_of_block hX 0) (cell_of_block hX 1) (cell_of_block hX 2)⟩
      generalize preB W (W * H) u = z at *
      have hel := encB_len z
      refine wp_region_held_drew (S := fun w' => w'.rangeAt g 0 (encB z) ∧ w'.rangeAt X 0 [.int .i64 W, .int .i64 H, .slice a1 cs.length c1]) (by kernel_rfl) hS (fun hH => ?_)
      refine wpAnyH_take (i := 0) (v := _) rfl (by kernel_rfl) (by kernel_rfl) (by kernel_rfl) (fun _ _ _ h => h) (Or.inl ⟨by rfl, fun _ _ => rfl⟩) hH ?_
      simp only [Act.put, List.setIfInBounds_toArray, List.set_cons_zero, List.set_cons_succ]
      refine wpAnyH_take (i := 1) (v := .pointer (some ⟨g, 0, none⟩)) rfl (by kernel_rfl) (by kernel_rfl) (by kernel_rfl) (fun _ _ _ h => h) (Or.inl ⟨by rfl, fun w' _ => by unfold execOp; go_simp⟩) hH ?_
      simp only [Act.put, List.setIfInBounds_toArray, List.set_cons_zero, List.set_cons_succ]
      refine wpAnyH_take (i := 2) (v := .agg (encB z).toArray) rfl (by kernel_rfl) (by kernel_rfl) (by kernel_rfl) (fun _ _ _ h => h) (yieldsIf_load_mid (by rfl) 69 _ rfl g 0 rfl (encB z) _ (fun _ h => h.1) Try.underlying69 rfl (inf67.trans (by rw [encB_len]))) hH ?_
      simp only [Act.put, List.setIfInBounds_toArray, List.set_cons_zero, List.set_cons_succ]
      refine wpAnyH_take (i := 3) (v := .pointer (some ⟨X, 0, none⟩)) rfl (by kernel_rfl) (by kernel_rfl) (by kernel_rfl) (fun _ _ _ h => h) (Or.inl ⟨by rfl, fun w' _ => by unfold execOp; go_simp⟩) hH ?_
      simp only [Act.put, List.setIfInBounds_toArray, List.set_cons_zero, List.set_cons_succ]
      refine wpAnyH_take (i := 4) (v := .int .i64 W) rfl (by kernel_rfl) (by kernel_rfl) (by kernel_rfl) (fun _ _ _ h => h) (Or.inl ⟨by rfl, fun w' hw => by have p0 := hw.2 0 _ rfl; unfold execOp; go_simp⟩) hH ?_
      simp only [Act.put, List.setIfInBounds_toArray, List.set_cons_zero, List.set_cons_succ]
      refine wpAnyH_take (i := 5) (v := .pointer (some ⟨X, 1, none⟩)) rfl (by kernel_rfl) (by kernel_rfl) (by kernel_rfl) (fun _ _ _ h => h) (Or.inl ⟨by rfl, fun w' _ => by unfold execOp; go_simp⟩) hH ?_
      simp only [Act.put, List.setIfInBounds_toArray, List.set_cons_zero, List.set_cons_succ]
      refine wpAnyH_take (i := 6) (v := .int .i64 H) rfl (by kernel_rfl) (by kernel_rfl) (by kernel_rfl) (fun _ _ _ h => h) (Or.inl ⟨by rfl, fun w' hw => by have p0 := hw.2 1 _ rfl; unfold execOp; go_simp⟩) hH ?_
      simp only [Act.put, List.setIfInBounds_toArray, List.set_cons_zero, List.set_cons_succ]
      refine wpAnyH_ready (rs := [7]) (by kernel_rfl) (by simp) ?_
      refine AllReadyH.cons rfl (fun K hK => ?_) AllReadyH.nil
      go_simp
      refine (HT.out _).mono ?_
      rintro e w3 ⟨rfl, hb4⟩
      have hb5 := hb3.trans ((ofDrewC hb4).mono hb3.size)
      have hS5 := And.intro (range_later hS.1 hb4) (range_later hS.2 hb4)
      go_wp2_with fail
      refine hK.out _ _ hS5 (fun hH5 => ?_)
      clear hK K hH
      refine wpAnyH_ready (rs := [8]) (by kernel_rfl) (by simp) ?_
      refine AllReadyH.cons rfl (fun K hK => ?_) AllReadyH.nil
      go_simp
      refine hK.out _ _ hS5 (fun hH6 => ?_)
      clear hK K hH5
      refine wpAnyH_ready (rs := [9]) (by kernel_rfl) (by simp) ?_
      refine AllReadyH.cons rfl (fun K hK => ?_) AllReadyH.nil
      go_simp
      refine hK.out _ _ hS5 (fun hH7 => ?_)
      clear hK K hH6
      refine wpAnyH_done (by kernel_rfl) ?_ _
      go_wp2_with fail
      go_ret2
      exact ⟨by rw [HY2.out.1, HY2.out.2]; rfl, hb5⟩
end Go.Proofs.Ytnnbkbjhombblaa
