/- Walks: the program's list of a cell's neighbours. -/
import Derived.Test.YthlbplmghjaeoaeN2
import Derived.Deep.RegionHeld3
import Derived.Outline
namespace Go.Proofs.Ythlbplmghjaeoae
open Go.RowKit

/-- Whether the cell o is a neighbour of the cell c on a board of a width. -/
def nbW (V : Geo) (c o : Nat) : Bool := match V with
  | .plain W => areNb (o / W) (o % W) (c / W) (c % W)
  | .around W H => areNbJ true W H (o / W) (o % W) (c / W) (c % W)
theorem nbW_geo (J : Bool) (W H c o : Nat) : nbW (geoOf J W H) c o = areNbJ J W H (o / W) (o % W) (c / W) (c % W) := by
  cases J
  · rw [areNb_false]; rfl
  · rfl
def nearGo (W : Geo) (c : Nat) (k : Nat) : Nat → List Nat
  | 0 => []
  | m + 1 => if nbW W c k = true then k :: nearGo W c (k + 1) m else nearGo W c (k + 1) m
def nearM (W : Geo) (n c : Nat) : List Nat := nearGo W c 0 n
theorem nearGo_le (W : Geo) (c : Nat) : ∀ (m k : Nat), (nearGo W c k m).length ≤ m
  | 0, _ => by simp [nearGo]
  | m + 1, k => by
    have := nearGo_le W c m (k + 1)
    unfold nearGo; split <;> simp <;> omega

theorem kept1 {w w' : World} {b o : Nat} {v : Value} (h : w.cell? ⟨b, o, none⟩ = some v) (hb : Below w.heap.size w w') : w'.cell? ⟨b, o, none⟩ = some v := by
  rw [hb.cell (p := ⟨b, o, none⟩) (World.block_lt_of_cell? w _ h)]; exact h

theorem ofDrew {B : Nat} {w w' : World} (h : Below B w.drew w') : Below B w w' := ⟨h.os, h.tape, h.output, h.size, h.block⟩

set_option maxRecDepth 100000 in
set_option maxHeartbeats 1600000 in
theorem neighboursJ_any {J : Bool} (W H : Nat) (a : Option Addr) (n cap : Nat) (c : Nat) (w : World) (hW : 1 ≤ W) (hc : c ≤ 63) (hn : n ≤ 64) (hJ : J = true → (1 ≤ W ∧ W ≤ 1048576) ∧ (1 ≤ H ∧ H ≤ 1048576)) :
    Calls Try.prog 81 #[.agg #[.int .i64 W, .int .i64 H, .slice a n cap, .bool J], .int .i64 c] w fun e w' => ∃ a' cap', e = .returned (.slice a' (nearM (geoOf J W H) n c).length cap') ∧ Owns w' w.heap.size 3 (.slice a' (nearM (geoOf J W H) n c).length cap') (nats (nearM (geoOf J W H) n c)) ∧ Below w.heap.size w w' := by
  have HN := Lib.hid (nbW_geo J W H c)
  obtain ⟨V, hV⟩ : ∃ V, geoOf J W H = V := ⟨_, rfl⟩
  rw [hV] at HN ⊢
  clear hV
  have hq1 : c / W ≤ 64 := Nat.le_trans (Nat.div_le_self _ _) (by omega)
  have hq2 : c % W ≤ 64 := Nat.le_trans (Nat.mod_le _ _) (by omega)
  go_enter Try.func81, Try.ntmps81
  go_wp2_with fail
  have hG1 : (w.alloc (.cells #[.int .i64 W, .int .i64 H, .slice a n cap, .bool J] 66)).heap[w.heap.size]? = some (.cells #[.int .i64 W, .int .i64 H, .slice a n cap, .bool J] 66 (0, 0)) := heap_alloc_new w _
  have hw0 : Below w.heap.size w (w.alloc (.cells #[.int .i64 W, .int .i64 H, .slice a n cap, .bool J] 66)) := (Below.refl _ _).alloc (Nat.le_refl _) _
  have hs0 : w.heap.size < (w.alloc (.cells #[.int .i64 W, .int .i64 H, .slice a n cap, .bool J] 66)).heap.size := by simp
  generalize w.alloc (.cells #[.int .i64 W, .int .i64 H, .slice a n cap, .bool J] 66) = w0 at *
  refine (spotOf_any W H a n cap c _ hW (by omega)).mono ?_
  rintro e w1 ⟨rfl, hb1⟩
  generalize hrr : c / W = rr at *
  generalize hcc : c % W = cc at *
  have HRR := Lib.hid hrr
  have HCC := Lib.hid hcc
  clear hrr hcc
  have s1 := hb1.size
  have hG2 : ∀ o, Hid ((w1.alloc o).heap[w.heap.size]? = some (.cells #[.int .i64 W, .int .i64 H, .slice a n cap, .bool J] 66 (0, 0))) := fun o => by
    rw [Hid, Below.heap_alloc _ _ _ (by omega), hb1.block _ hs0]; exact hG1
  have hA2 : ∀ o, Hid ((w1.alloc o).heap[w1.heap.size]? = some o) := fun o => heap_alloc_new w1 o
  have hf0 := cell_of_block (hb1.block _ hs0 ▸ hG1 : w1.heap[w.heap.size]? = _) 0
  have hf1 := cell_of_block (hb1.block _ hs0 ▸ hG1 : w1.heap[w.heap.size]? = _) 1
  have hf2 := cell_of_block (hb1.block _ hs0 ▸ hG1 : w1.heap[w.heap.size]? = _) 2
  have hf3 := cell_of_block (hb1.block _ hs0 ▸ hG1 : w1.heap[w.heap.size]? = _) 3
  simp at hf0 hf1 hf2 hf3
  have hlt1 : w.heap.size < w1.heap.size := by omega
  clear hG1
  go_wp2_with fail
  have hM : Hid (nearM V n c = nearGo V c 0 n) := rfl
  generalize hGG : w.heap.size = G at *
  have HGG := Lib.hid hGG
  clear hGG
  generalize hAA : w1.heap.size = A at *
  have HAA := Lib.hid hAA
  clear hAA
  have hG3 := hG2 (.cells #[.int .i64 rr, .int .i64 cc] 110)
  have hA3 := hA2 (.cells #[.int .i64 rr, .int .i64 cc] 110)
  have hw1 : Below G w (w1.alloc (.cells #[.int .i64 rr, .int .i64 cc] 110)) := (hw0.trans (hb1.mono (by omega))).alloc (by rw [HAA.out]; omega) _
  generalize w1.alloc (.cells #[.int .i64 rr, .int .i64 cc] 110) = w2 at *
  clear hG2 hA2 hf0 hf1 hf2 hf3
  go_loopw [6, 14] (fun v i wr => ∃ k : Nat, k ≤ n ∧ i = .int .i64 k ∧ ∃ acc : List Nat, acc.length ≤ k ∧ Owns wr (A + 1) 3 v (nats acc) ∧ Below (A + 1) w2 wr ∧ Hid (nearM V n c = acc ++ nearGo V c k (n - k))) (fun _ i _ => n - (intOf i).toNat)
  case atStart => exact ⟨0, Nat.zero_le _, rfl, [], by simp, Owns.nil _ _ _, Below.refl _ _, by rw [Hid, hM.out]; simp⟩
  case round =>
    obtain ⟨k, hk, rfl, acc, hacc, hown, hb, hR⟩ := hrel
    by_cases hlt : k < n
    · have hGr : wr.heap[G]? = some (.cells #[.int .i64 W, .int .i64 H, .slice a n cap, .bool J] 66 (0, 0)) := by rw [hb.block _ (by omega)]; exact hG3.out
      have hAr : wr.heap[A]? = some (.cells #[.int .i64 rr, .int .i64 cc] 110 (0, 0)) := by rw [hb.block _ (by omega)]; exact hA3.out
      have hGlt := block_lt hGr
      have hAlt := block_lt hAr
      have hf0 := cell_of_block hGr 0
      have hf1 := cell_of_block hGr 1
      have hf2 := cell_of_block hGr 2
      have hf3 := cell_of_block hGr 3
      have hr0 := cell_of_block hAr 0
      have hr1 := cell_of_block hAr 1
      simp at hf0 hf1 hf2 hf3 hr0 hr1
      clear hGr hAr
      have hq1 : k / W ≤ 64 := Nat.le_trans (Nat.div_le_self _ _) (by omega)
      have hq2 : k % W ≤ 64 := Nat.le_trans (Nat.mod_le _ _) (by omega)
      go_wp2_with fail
      go_region_held3 (fun w' => w'.cell? ⟨G, 0, none⟩ = some (.int .i64 W) ∧ w'.cell? ⟨G, 1, none⟩ = some (.int .i64 H) ∧ w'.cell? ⟨G, 2, none⟩ = some (.slice a n cap) ∧ w'.cell? ⟨G, 3, none⟩ = some (.bool J) ∧ w'.cell? ⟨A, 0, none⟩ = some (.int .i64 rr) ∧ w'.cell? ⟨A, 1, none⟩ = some (.int .i64 cc))
        (first | exact ⟨hf0, hf1, hf2, hf3, hr0, hr1⟩ | exact ⟨kept1 (w := wr.drew) hf0 hb3, kept1 (w := wr.drew) hf1 hb3, kept1 (w := wr.drew) hf2 hb3, kept1 (w := wr.drew) hf3 hb3, kept1 (w := wr.drew) hr0 hb3, kept1 (w := wr.drew) hr1 hb3⟩ | exact ⟨kept1 (kept1 (w := wr.drew) hf0 hb3) hb4, kept1 (kept1 (w := wr.drew) hf1 hb3) hb4, kept1 (kept1 (w := wr.drew) hf2 hb3) hb4, kept1 (kept1 (w := wr.drew) hf3 hb3) hb4, kept1 (kept1 (w := wr.drew) hr0 hb3) hb4, kept1 (kept1 (w := wr.drew) hr1 hb3) hb4⟩)
        (first | (go_at_call 96; refine (spotOf_any W H a n cap k _ hW (by omega)).mono ?_; rintro e w3 ⟨rfl, hb3⟩) | (go_at_call 97; refine (areNeighboursJ_any W H a n cap (k / W) (k % W) rr cc _ hq1 hq2 (by omega) (by omega) hJ).mono ?_; rintro e w4 ⟨rfl, hb4⟩))
      have hb34 : Below wr.heap.size wr w4 := (ofDrew hb3).trans (hb4.mono hb3.size)
      have s34 := hb34.size
      clear hf0 hf1 hf2 hf3 hr0 hr1
      by_cases hn1 : nbW V c k = true
      · have hd : areNbJ J W H (k / W) (k % W) rr cc = true := by rw [← HN.out]; exact hn1
        have Hn1 := Lib.hid hn1
        clear hn1
        rw [hd]
        clear hd
        go_wp2_with (at_builtin; refine wpList_app1 rfl _ _ _ rfl _ _ _ _ elemInt _ _ _ _ rfl rfl rfl (hown.later hb34) rfl (by simp; omega) (by omega) (by simp; omega) ?_; intro v1 w5 hown1 hb5 hs5)
        rw [nats_snoc] at hown1
        go_roundw
        case rel =>
          first
            | exact ⟨k + 1, by omega, by go_num, _, by simp; omega, hown1, (hb.trans (hb34.mono (by omega))).trans hb5, by rw [Hid, hR.out, show n - k = (n - (k + 1)) + 1 by omega, nearGo, if_pos Hn1.out]; simp⟩
            | ((repeat apply Exists.intro); exact ⟨⟨k + 1, by omega, by go_num, _, by simp; omega, hown1, (hb.trans (hb34.mono (by omega))).trans hb5, by rw [Hid, hR.out, show n - k = (n - (k + 1)) + 1 by omega, nearGo, if_pos Hn1.out]; simp⟩, rfl⟩)
        case measure => simp [intOf]; omega
      · have hd : areNbJ J W H (k / W) (k % W) rr cc = false := by rw [← HN.out]; simpa using hn1
        have Hn1 := Lib.hid hn1
        clear hn1
        rw [hd]
        clear hd
        go_wp2_with fail
        go_roundw
        case rel =>
          first
            | exact ⟨k + 1, by omega, by go_num, acc, by omega, hown.later hb34, hb.trans (hb34.mono (by omega)), by rw [Hid, hR.out, show n - k = (n - (k + 1)) + 1 by omega, nearGo, if_neg Hn1.out]⟩
            | ((repeat apply Exists.intro); exact ⟨⟨k + 1, by omega, by go_num, acc, by omega, hown.later hb34, hb.trans (hb34.mono (by omega)), by rw [Hid, hR.out, show n - k = (n - (k + 1)) + 1 by omega, nearGo, if_neg Hn1.out]⟩, rfl⟩)
        case measure => simp [intOf]; omega
    · obtain rfl : k = n := by omega
      go_wp2_with fail
      go_ret
      have hfin : acc = nearM V k c := by rw [hR.out]; simp [nearGo]
      rw [hfin] at hown
      obtain ⟨a', cap', hv⟩ := hown.shape
      simp only [nats_length] at hv
      rw [HGG.out]
      exact ⟨a', cap', by rw [← hv]; rfl, by rw [← hv]; exact hown.mono (by omega), hw1.trans (hb.mono (by omega))⟩
/-- The same where rows are not joined. -/
theorem neighbours_any (W H : Nat) (a : Option Addr) (n cap : Nat) (c : Nat) (w : World) (hW : 1 ≤ W) (hc : c ≤ 63) (hn : n ≤ 64) :
    Calls Try.prog 81 #[.agg #[.int .i64 W, .int .i64 H, .slice a n cap, .bool false], .int .i64 c] w fun e w' => ∃ a' cap', e = .returned (.slice a' (nearM W n c).length cap') ∧ Owns w' w.heap.size 3 (.slice a' (nearM W n c).length cap') (nats (nearM W n c)) ∧ Below w.heap.size w w' :=
  neighboursJ_any W H a n cap c w hW hc hn nofun
end Go.Proofs.Ythlbplmghjaeoae
