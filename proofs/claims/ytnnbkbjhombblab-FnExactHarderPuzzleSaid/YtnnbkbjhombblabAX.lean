/- HarderPuzzle by the model. -/
import Derived.Test.YtnnbkbjhombblabAV
import Derived.Test.YtnnbkbjhombblabAA
import Derived.Test.YtnnbkbjhombblabAD
namespace Go.Proofs.Ytnnbkbjhombblab
open Go.RowKit

theorem wpList_appO {ops : Array Oper} {rest : List Oper} {o : Oper} {x : Act} {Q : Exit → Act → World → Prop} {w : World} (hgd : o.guard = none) (s y : Operand)
    (ho : o.op = .call { callee := .builtin .append, args := #[s, y], argTypes := #[28, 28] })
    (B : Nat) (v : Value) (cs ms : List Clu) (hs : x.eval s = v) (hown : OwnsC w B v cs) (b : Option Addr) (m c : Nat) (hy : x.eval y = .slice b m c) (hm : m = ms.length) (hat : At w b (flatC ms)) (hB : B ≤ w.heap.size) (hl : cs.length + ms.length ≤ 4000000)
    (h : ∀ v' w', OwnsC w' B v' (cs ++ ms) → Below B w w' → wpList Try.prog ops Q rest (x.put o.dst v') w') : wpList Try.prog ops Q (o :: rest) x w := by
  refine wpList_plain hgd fun K hK => ?_
  have h2 := step_appO (ops := #[]) (S := True) (K := K) (Q := Q) hgd s y ho B v cs ms hs hown b m c hy hm hat hB hl (fun v' w' p q => hK _ _ (h v' w' p q))
  have hw : Region.wanted o (yielded #[] x.tmps) = true := by simp [Region.wanted, hgd]
  rwa [if_pos hw] at h2
def lenV : Value → Nat
  | .slice _ n _ => n
  | _ => 0
set_option maxRecDepth 100000 in
set_option maxHeartbeats 1600000 in
theorem sHarder_no (x y : Int) (a : Option Addr) (n cap : Nat) (cs : List Clu) (w : World) (hn : n = cs.length) (hat : At w a (flatC cs)) (hD : csS x y cs = false) :
    Calls Try.prog 25 #[.agg #[.int .i64 x, .int .i64 y, .slice a n cap]] w fun e w' => e = .returned (.tuple #[.agg #[.int .i64 0, .int .i64 0, .slice none 0 0], .bool false]) ∧ Below w.heap.size w w' := by
  subst hn
  have hb : Below w.heap.size w ((w.alloc (.cells #[.int .i64 x, .int .i64 y, .slice a cs.length cap] 30)).alloc (.cells #[.int .i64 0, .int .i64 0, .slice none 0 0] 30)) := ((Below.refl _ _).alloc (Nat.le_refl _) _).alloc (by simp) _
  have hG := blk0 w (.cells #[.int .i64 x, .int .i64 y, .slice a cs.length cap] 30) (.cells #[.int .i64 0, .int .i64 0, .slice none 0 0] 30)
  have hE := blk1 w (.cells #[.int .i64 x, .int .i64 y, .slice a cs.length cap] 30) (.cells #[.int .i64 0, .int .i64 0, .slice none 0 0] 30)
  have hat1 := hat.later rfl hb
  have HP := Lib.hid (fun w hat => pzGood_any x y a cs.length cap cs w rfl hat)
  cases h : pzB x y cs with
  | false =>
    rw [h] at HP
    clear h hD
    go_enter Try.func25, Try.ntmps25
    go_wp2_with fail
    generalize (w.alloc (.cells #[.int .i64 x, .int .i64 y, .slice a cs.length cap] 30)).alloc (.cells #[.int .i64 0, .int .i64 0, .slice none 0 0] 30) = w1 at *
    refine (HP.out _ hat1).mono ?_
    rintro e w2 ⟨rfl, hb2⟩
    have hB2 := hb.trans (hb2.mono hb.size)
    have hE2 := (hb2.block _ (block_lt hE)).trans hE
    clear hb hb2 hat1 hat hE hG
    have z0 := cell_of_block hE2 0
    have z1 := cell_of_block hE2 1
    have z2 := cell_of_block hE2 2
    have zf := frozen_of_block hE2
    simp at z0 z1 z2
    have HE2 := Lib.hid hE2
    clear hE2
    go_wp2_with fail
    obtain ⟨hE5, hb5⟩ := puzzle_stored (B := w.heap.size) HE2.out (by omega) (.int .i64 0) (.int .i64 0) (.slice none 0 0)
    exact bodyPost_ret (res_pair rfl _ _ _ _ _ _ _ _ rfl hE5 Try.underlying30 rfl infPuz rfl) rfl ⟨rfl, hB2.trans hb5⟩
  | true =>
    rw [h] at HP
    obtain ⟨W, H, rfl, rfl, hW, hH, h9, hs, h8, hc⟩ := pz_yes h
    rw [csS_yes h] at hD
    have hso := fun w hat => pzSolved_any W H cs.length cap cs.length cap a a cs w hW hH h9 rfl h8 hc hat
    rw [hD] at hso
    have HS := Lib.hid hso
    clear h hD hs hc hso
    go_enter Try.func25, Try.ntmps25
    go_wp2_with fail
    generalize (w.alloc (.cells #[.int .i64 W, .int .i64 H, .slice a cs.length cap] 30)).alloc (.cells #[.int .i64 0, .int .i64 0, .slice none 0 0] 30) = w1 at *
    refine (HP.out _ hat1).mono ?_
    rintro e w2 ⟨rfl, hb2⟩
    have hB2 := hb.trans (hb2.mono hb.size)
    have hE2 := (hb2.block _ (block_lt hE)).trans hE
    have hG2 := (hb2.block _ (block_lt hG)).trans hG
    have hat2 := hat1.later rfl hb2
    clear hb hb2 hat1 hat hE hG
    have f0 := cell_of_block hG2 0
    have f1 := cell_of_block hG2 1
    have f2 := cell_of_block hG2 2
    simp at f0 f1 f2
    have HE2 := Lib.hid hE2
    clear hE2 hG2
    go_wp2_with fail
    refine (HS.out _ hat2).mono ?_
    rintro e w3 ⟨rfl, hb3⟩
    have hB3 := hB2.trans (hb3.mono hB2.size)
    have hE3 := (hb3.block _ (block_lt HE2.out)).trans HE2.out
    clear hB2 hb3 HE2 hat2 f0 f1 f2
    have z0 := cell_of_block hE3 0
    have z1 := cell_of_block hE3 1
    have z2 := cell_of_block hE3 2
    have zf := frozen_of_block hE3
    simp at z0 z1 z2
    have HE3 := Lib.hid hE3
    clear hE3
    go_wp2_with fail
    obtain ⟨hE5, hb5⟩ := puzzle_stored (B := w.heap.size) HE3.out (by omega) (.int .i64 0) (.int .i64 0) (.slice none 0 0)
    exact bodyPost_ret (res_pair rfl _ _ _ _ _ _ _ _ rfl hE5 Try.underlying30 rfl infPuz rfl) rfl ⟨rfl, hB3.trans hb5⟩
set_option maxRecDepth 100000 in
set_option maxHeartbeats 3200000 in
theorem sHarder_yes (W H : Nat) (a : Option Addr) (n cap : Nat) (cs : List Clu) (w : World) (hn : n = cs.length) (hcap : n ≤ cap) (hcm : cap ≤ 9223372036854775807) (hat : At w a (flatC cs)) (hD : csS W H cs = true) :
    Calls Try.prog 25 #[.agg #[.int .i64 W, .int .i64 H, .slice a n cap]] w fun e w' => ∃ v, e = .returned (.tuple #[.agg #[.int .i64 W, .int .i64 H, v], .bool true]) ∧ RowC w' w.heap.size v (hardC W H cs.length 0 cs) ∧ Below w.heap.size w w' := by
  subst hn
  have h : pzB W H cs = true := by rw [csS, Bool.and_eq_true] at hD; exact hD.1
  rw [csS_yes h] at hD
  have HP := Lib.hid (fun w hat => pzGood_any W H a cs.length cap cs w rfl hat)
  rw [h] at HP
  obtain ⟨W', H', hw, hh, hW, hH, h9, hs, h8, hc⟩ := pz_yes h
  obtain rfl : W = W' := by omega
  obtain rfl : H = H' := by omega
  have hso := fun w hat => pzSolved_any W H cs.length cap cs.length cap a a cs w hW hH h9 rfl h8 hc hat
  rw [hD] at hso
  have HS := Lib.hid hso
  have hb : Below w.heap.size w ((w.alloc (.cells #[.int .i64 W, .int .i64 H, .slice a cs.length cap] 30)).alloc (.cells #[.int .i64 0, .int .i64 0, .slice none 0 0] 30)) := ((Below.refl _ _).alloc (Nat.le_refl _) _).alloc (by simp) _
  have hG := blk0 w (.cells #[.int .i64 W, .int .i64 H, .slice a cs.length cap] 30) (.cells #[.int .i64 0, .int .i64 0, .slice none 0 0] 30)
  have hE := blk1 w (.cells #[.int .i64 W, .int .i64 H, .slice a cs.length cap] 30) (.cells #[.int .i64 0, .int .i64 0, .slice none 0 0] 30)
  have hat1 := hat.later rfl hb
  have HC := Lib.hid (fun m c b (ds : List Clu) w (h8 : ds.length ≤ 8) (hd : ∀ c ∈ ds, cluB W H c = true) (hn : m = ds.length) hat => pzSolved_any W H cs.length cap m c a b ds w hW hH h9 hn h8 hd hat)
  have HWO := Lib.hid (fun b m c k (ds : List Clu) w (hn : m = ds.length) hcap hcm hat hk hl => pzWithout_any b m c k ds w hn hcap hcm hat hk hl)
  have HWI := Lib.hid (fun b m c w => pzWith_any (W : Int) (H : Int) a cs.length cap b m c w)
  have HCC := Lib.hid hc
  have HH : Hid (hardC W H cs.length 0 cs = hardC W H (cs.length - 0) 0 cs) := rfl
  clear h hs hc hat hw hh hD hso
  go_enter Try.func25, Try.ntmps25
  go_wp2_with fail
  generalize (w.alloc (.cells #[.int .i64 W, .int .i64 H, .slice a cs.length cap] 30)).alloc (.cells #[.int .i64 0, .int .i64 0, .slice none 0 0] 30) = w1 at *
  refine (HP.out _ hat1).mono ?_
  rintro e w2 ⟨rfl, hb2⟩
  have hB2 := hb.trans (hb2.mono hb.size)
  have hE2 := (hb2.block _ (block_lt hE)).trans hE
  have hG2 := (hb2.block _ (block_lt hG)).trans hG
  have hat2 := hat1.later rfl hb2
  clear hb hb2 hat1 hE hG
  have f0 := cell_of_block hG2 0
  have f1 := cell_of_block hG2 1
  have f2 := cell_of_block hG2 2
  simp at f0 f1 f2
  have HE2 := Lib.hid hE2
  have HG2 := Lib.hid hG2
  clear hE2 hG2
  go_wp2_with fail
  refine (HS.out _ hat2).mono ?_
  rintro e w3 ⟨rfl, hb3⟩
  have hB3 := hB2.trans (hb3.mono hB2.size)
  have hE3 := (hb3.block _ (block_lt HE2.out)).trans HE2.out
  have hG3 := (hb3.block _ (block_lt HG2.out)).trans HG2.out
  have hat3 := hat2.later rfl hb3
  clear hB2 hb3 HE2 HG2 hat2 f0 f1 f2
  have f0 := cell_of_block hG3 0
  have f1 := cell_of_block hG3 1
  have f2 := cell_of_block hG3 2
  simp at f0 f1 f2
  have HE3 := Lib.hid hE3
  have HG3 := Lib.hid hG3
  clear hE3 hG3
  have hb4 : Below w3.heap.size w3 (w3.alloc (.cells #[] 46)) := (Below.refl _ _).alloc (Nat.le_refl _) _
  have hO4 : OwnsC (w3.alloc (.cells #[] 46)) w3.heap.size (.slice (some ⟨w3.heap.size, 0, none⟩) 0 0) [] := OwnsC.empty w3 w3.heap.size (Nat.le_refl _)
  have hat4 := Lib.hid (hat3.later rfl hb4)
  have hG4 := (hb4.block _ (block_lt HG3.out)).trans HG3.out
  have g2 : (w3.alloc (.cells #[] 46)).cell? ⟨w.heap.size, 2, none⟩ = some (.slice a cs.length cap) := cell_of_block hG4 2
  clear hG4
  go_wp2_with (at_builtin; refine wpList_appO rfl _ _ rfl w3.heap.size _ [] cs rfl hO4 a cs.length cap rfl rfl hat4.out hb4.size (by simp; omega) ?_; intro v5 w5 hO5 hb5)
  have hR5 := hO5.row
  have hb5' := (hb4.trans hb5)
  have hE5 := (hb5'.block _ (block_lt HE3.out)).trans HE3.out
  have hG5 := (hb5'.block _ (block_lt HG3.out)).trans HG3.out
  have hB5 := hB3.trans (hb5'.mono hB3.size)
  have hR5' := hR5.mono hB3.size
  rw [List.nil_append] at hR5'
  obtain ⟨a5, c5, hv⟩ := hR5'.shape
  subst hv
  clear hO4 hO5 hb5 hb5' hb4 hat4 hat3 hR5 g2 f0 f1 f2 HE3 HG3 hB3
  go_loopw [4, 5] (fun v i wr => ∃ (k : Nat) (a' : Option Addr) (c' : Nat) (ds : List Clu), k ≤ ds.length ∧ ds.length ≤ 8 ∧ v = .slice a' ds.length c' ∧ i = .int .i64 k ∧ Hid (∀ c ∈ ds, cluB W H c = true) ∧ wr.heap[w.heap.size]? = some (.cells #[.int .i64 W, .int .i64 H, .slice a cs.length cap] 30 (0, 0)) ∧ wr.heap[w.heap.size + 1]? = some (.cells #[.int .i64 0, .int .i64 0, .slice none 0 0] 30 (0, 0)) ∧ RowC wr w.heap.size (.slice a' ds.length c') ds ∧ Hid (hardC W H cs.length 0 cs = hardC W H (ds.length - k) k ds) ∧ Below w.heap.size w wr) (fun v i _ => lenV v - (intOf i).toNat)
  case atStart => exact ⟨0, a5, c5, cs, Nat.zero_le _, h8, rfl, rfl, HCC, hG5, hE5, hR5', HH, hB5⟩
  case round =>
    clear hG5 hE5 hR5' hB5 HH
    obtain ⟨k, a', c', ds, hk, hd8, rfl, rfl, hdc, hG, hE, hR, HH, hbr⟩ := hrel
    have HG := Lib.hid hG
    have HE := Lib.hid hE
    clear hG hE
    by_cases hlt : k < ds.length
    · have HST := Lib.hid (hardC_step (W := W) (H := H) hlt)
      go_wp2_with fail
      refine (HWO.out _ _ _ k ds wr rfl hR.cap.1 hR.cap.2 hR.at hlt (by omega)).mono ?_
      rintro e w6 ⟨v6, rfl, hO6, hb6⟩
      have hG6 := (hb6.block _ (block_lt HG.out)).trans HG.out
      have hE6 := (hb6.block _ (block_lt HE.out)).trans HE.out
      have hbr6 := hbr.trans (hb6.mono hbr.size)
      have hRo := hR.below hb6
      have hR6 := hO6.row.mono hbr.size
      have hel : Hid ((ds.eraseIdx k).length = ds.length - 1) := List.length_eraseIdx_of_lt hlt
      have hdc2 : ∀ c ∈ ds.eraseIdx k, cluB W H c = true := fun c h => hdc.out c (List.mem_of_mem_eraseIdx h)
      obtain ⟨a6, c6, hv⟩ := hR6.shape
      subst hv
      have f0 := cell_of_block hG6 0
      have f1 := cell_of_block hG6 1
      have f2 := cell_of_block hG6 2
      simp at f0 f1 f2
      clear hR hb6 hbr HG HE hO6
      have HG := Lib.hid hG6
      have HE := Lib.hid hE6
      clear hG6 hE6
      go_wp2_with fail
      refine (HC.out _ _ _ (ds.eraseIdx k) w6 (by have := hel.out; omega) hdc2 rfl hR6.at).mono ?_
      rintro e w7 ⟨rfl, hb7⟩
      have hG7 := (hb7.block _ (block_lt HG.out)).trans HG.out
      have hE7 := (hb7.block _ (block_lt HE.out)).trans HE.out
      have hbr7 := hbr6.trans (hb7.mono hbr6.size)
      have hRo7 := hRo.below hb7
      have hR7 := hR6.below hb7
      clear hb7 hbr6 hRo hR6 HG HE f0 f1 f2
      have ho : Hid (oneC W H (ds.eraseIdx k) = (((solC W (W * H) (ds.eraseIdx k)).length : Int) == 1)) := rfl
      cases h1 : oneC W H (ds.eraseIdx k) with
      | true =>
        have ho1 := ho.out.symm.trans h1
        have HS2 : Hid (hardC W H (ds.length - k) k ds = hardC W H ((ds.eraseIdx k).length - k) k (ds.eraseIdx k)) := by rw [Hid, HST.out, h1]; rfl
        clear h1 ho HST
        go_wp2_with fail
        go_roundw
        case rel => exact ⟨k, a6, c6, ds.eraseIdx k, by have := hel.out; omega, by have := hel.out; omega, rfl, rfl, hdc2, hG7, hE7, hR7, by rw [Hid, HH.out, HS2.out], hbr7⟩
        case measure => have := hel.out; simp only [intOf, lenV]; omega
      | false =>
        have ho1 := ho.out.symm.trans h1
        have HS2 : Hid (hardC W H (ds.length - k) k ds = hardC W H (ds.length - (k + 1)) (k + 1) ds) := by rw [Hid, HST.out, h1]; rfl
        clear h1 ho HST
        go_wp2_with fail
        go_roundw
        case rel => exact ⟨k + 1, a', c', ds, by omega, hd8, rfl, by go_num, hdc, hG7, hE7, hRo7, by rw [Hid, HH.out, HS2.out], hbr7⟩
        case measure => simp only [intOf, lenV]; omega
    · obtain rfl : k = ds.length := by omega
      have f0 := cell_of_block HG.out 0
      have f1 := cell_of_block HG.out 1
      have f2 := cell_of_block HG.out 2
      simp at f0 f1 f2
      go_wp2_with fail
      refine (HWI.out _ _ _ _).mono ?_
      rintro e w8 ⟨rfl, hb8⟩
      have hE8 := (hb8.block _ (block_lt HE.out)).trans HE.out
      have hbr8 := hbr.trans (hb8.mono hbr.size)
      have hR8 := hR.below hb8
      clear HE HG hb8 f0 f1 f2
      have z0 := cell_of_block hE8 0
      have z1 := cell_of_block hE8 1
      have z2 := cell_of_block hE8 2
      have zf := frozen_of_block hE8
      simp at z0 z1 z2
      have HE := Lib.hid hE8
      clear hE8
      go_wp2_with fail
      obtain ⟨hE9, hb9⟩ := puzzle_stored (B := w.heap.size) HE.out (by omega) (.int .i64 W) (.int .i64 H) (.slice a' ds.length c')
      rw [Nat.sub_self] at HH
      exact bodyPost_ret (res_pair rfl _ _ _ _ _ _ _ _ rfl hE9 Try.underlying30 rfl infPuz rfl) rfl ⟨_, rfl, by rw [HH.out]; exact hR8.put3 HE.out, hbr8.trans hb9⟩
theorem core_HarderPuzzle (x y : Int) (cs : List Clu) (hl : cs.length ≤ 1048576) : ∃ (X Y : Int) (R : Bool) (D : List Clu), D.length ≤ 2000000 ∧
    (∀ (a : Option Addr) (n c : Nat) (w : World), n = cs.length → n ≤ c → c ≤ 9223372036854775807 → At w a (flatC cs) → Calls Try.prog 25 #[.agg #[.int .i64 x, .int .i64 y, .slice a n c]] w fun e w' => ∃ v, e = .returned (.tuple #[.agg #[.int .i64 X, .int .i64 Y, v], .bool R]) ∧ RowC w' w.heap.size v D ∧ Below w.heap.size w w') ∧
    (∀ (a : Option Addr) (n c : Nat) (w : World), n = cs.length → n ≤ c → c ≤ 9223372036854775807 → At w a (flatC cs) → Calls Try.prog 26 #[.agg #[.int .i64 x, .int .i64 y, .slice a n c]] w fun e w' => ∃ v, e = .returned (.tuple #[.agg #[.int .i64 X, .int .i64 Y, v], .bool R]) ∧ RowC w' w.heap.size v D ∧ Below w.heap.size w w') := by
  cases h : csS x y cs with
  | false =>
    refine ⟨0, 0, false, [], by simp, fun a n c w hn _ _ hat => (sHarder_no x y a n c cs w hn hat h).mono ?_, fun a n c w hn _ _ hat => (iHarder_no x y a n c cs w hn hat h).mono ?_⟩
    all_goals
      rintro e w' ⟨rfl, hb⟩
      exact ⟨_, rfl, RowC.nil _ _, hb⟩
  | true =>
    have hp : pzB x y cs = true := by have h' := h; rw [csS, Bool.and_eq_true] at h'; exact h'.1
    obtain ⟨W, H, rfl, rfl, _⟩ := pz_yes hp
    exact ⟨W, H, true, hardC W H cs.length 0 cs, by have := hardC_len W H cs.length 0 cs; omega, fun a n c w hn hc hm hat => sHarder_yes W H a n c cs w hn hc hm hat h, fun a n c w hn _ _ hat => iHarder_yes W H a n c cs w hn hat h⟩
end Go.Proofs.Ytnnbkbjhombblab
