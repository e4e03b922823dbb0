/- Walks: the picture of a board, by the model and by the program. -/
import Derived.Test.YtndmkbkmfonefaaDoorT9
import Derived.Test.YtndmkbkmfonefaaDoorT8
import Derived.Test.YtndmkbkmfonefaaDoorU1
import Derived.Deep.RegionHeld3
import Derived.Outline
namespace Go.Proofs.YtndmkbkmfonefaaDoor
open Go.RowKit

/-- The picture when the cells ahead of k are told. -/
def picK (cells : List UInt8) (V : Geo) (k : Nat) : List UInt8 := picGo cells V 0 k ++ List.replicate (cells.length - k) 46
theorem picK_length {cells : List UInt8} {V : Geo} {k : Nat} (hk : k ≤ cells.length) : (picK cells V k).length = cells.length := by simp [picK]; omega
theorem picK_set {cells : List UInt8} {V : Geo} {k : Nat} (hk : k < cells.length) : (picK cells V k).set k (picB cells V k) = picK cells V (k + 1) := by
  unfold picK
  rw [show cells.length - k = (cells.length - (k + 1)) + 1 by omega, List.replicate_succ, List.set_append_right _ _ (by simp), picGo_snoc]
  simp only [picGo_length, Nat.sub_self, List.set_cons_zero, Nat.zero_add, List.append_assoc, List.cons_append, List.nil_append]
theorem picK_all (cells : List UInt8) (V : Geo) : picK cells V cells.length = picGo cells V 0 cells.length := by simp [picK]

def piM (l : List UInt8) : List UInt8 := textM (picGo (gCells l) (gW l) 0 (gCells l).length) (gW l) (gH l)
theorem piM_none {l : List UInt8} (h : ¬ boGoodM l = true) : piM l = [] := by
  unfold piM gH
  rw [if_neg h]
  rfl

set_option maxRecDepth 100000 in
set_option maxHeartbeats 800000 in
theorem sPictureOf_any (l : List UInt8) (w : World) (hl : l.length ≤ 1048576) :
    Calls Tryd.prog 30 #[.string ⟨l.toArray⟩] w fun e w' => e = .returned (.tuple #[.string ⟨(piM l).toArray⟩, .bool (boGoodM l)]) ∧ Below w.heap.size w w' := by
  by_cases hg : boGoodM l = true
  · have hB := Brd.of hg
    generalize headLen (splitB 47 l) = W at *
    generalize (splitB 47 l).length = H at *
    obtain ⟨g1, g2, g3⟩ := hB.grid
    have HO := Lib.hid (show piM l = brGo W 0 (picGo (cellsM l) W 0 (cellsM l).length) by rw [piM, g1, g2, g3, brGo_text W H hB.w1 _ (by simpa using hB.len)])
    have HG := Lib.hid hg
    have HS := Lib.hid hB.size
    have HC := Lib.hid hB.cs
    have hn64 := hB.n64
    have hW1 := hB.w1
    have hW8 := hB.w8
    have hpi := fun w => boPicture_any W H (cellsM l) w ⟨hB.w1, hB.w8⟩ hB.h8 hB.len hB.sign
    clear g1 g2 g3 hB
    go_enter Tryd.func30, Tryd.ntmps30
    go_wp2_with fail
    refine (boGood_any l _ hl).mono ?_
    rintro e w1 ⟨rfl, hb1⟩
    go_wp2_with fail
    refine (boSize_any l _ hl).mono ?_
    rintro e w2 ⟨rfl, hb2⟩
    rw [HS.out]
    go_wp2_with fail
    refine (boCells_any l _ hl).mono ?_
    rintro e w2' ⟨rfl, rfl⟩
    generalize cellsM l = cells at *
    go_wp2_with fail
    refine (hpi _).mono ?_
    rintro e w3 ⟨rfl, hb3⟩
    go_wp2_with fail
    refine (boRows_any _ W _ (by simpa using hn64) hW1 (by omega)).mono ?_
    rintro e w3' ⟨rfl, rfl⟩
    go_wp2_with fail
    go_ret2
    have s1 := hb1.size
    have s2 := hb2.size
    exact ⟨by rw [HO.out, HG.out]; rfl, (hb1.trans (hb2.mono s1)).trans (hb3.mono (by omega))⟩
  · have HT := Lib.hid (piM_none hg)
    have hg' : boGoodM l = false := by simpa using hg
    clear hg
    go_enter Tryd.func30, Tryd.ntmps30
    go_wp2_with (go_at_call 36; refine (boGood_any l _ hl).mono ?_; rintro e w1 ⟨rfl, hb1⟩)
    go_ret2
    exact ⟨by rw [HT.out, hg']; rfl, hb1⟩

/-- What lies in a cell. -/
def cellOf (w : World) (b o : Nat) : Value := (w.cell? ⟨b, o, none⟩).getD (.bool false)
theorem cellOf_some {w : World} {b o : Nat} {v : Value} (h : w.cell? ⟨b, o, none⟩ = some v) : w.cell? ⟨b, o, none⟩ = some (cellOf w b o) := by
  rw [cellOf, h]; rfl

set_option maxRecDepth 100000 in
set_option maxHeartbeats 3200000 in
theorem pictureJ_any {J : Bool} (W H : Nat) (a : Option Addr) (cells : List UInt8) (cap : Nat) (w : World) (hat : At w a (byts cells)) (hn : cells.length = W * H) (hz : (W = 0 ∧ H = 0) ∨ ((1 ≤ W ∧ W ≤ 8) ∧ (1 ≤ H ∧ H ≤ 8))) :
    Calls Tryd.prog 52 #[.agg #[.int .i64 W, .int .i64 H, .slice a cells.length cap, .bool J]] w fun e w' => e = .returned (.string ⟨(textM (picGo cells (geoOf J W H) 0 cells.length) W H).toArray⟩) ∧ Below w.heap.size w w' := by
  have hW8 : W ≤ 8 := by omega
  have hH8 : H ≤ 8 := by omega
  have h64 : cells.length ≤ 64 := by rw [hn]; exact Nat.mul_le_mul hW8 hH8
  have HN := Lib.hid hn
  have hfg := fun w => freeGrid_any W H w hW8 hH8
  rw [← hn] at hfg
  have HFG := Lib.hid hfg
  clear hfg hn
  have hb0 : Below w.heap.size w (w.alloc (.cells #[.int .i64 W, .int .i64 H, .slice a cells.length cap, .bool J] 40)) := (Below.refl _ _).alloc (Nat.le_refl _) _
  have hG0 : (w.alloc (.cells #[.int .i64 W, .int .i64 H, .slice a cells.length cap, .bool J] 40)).heap[w.heap.size]? = some (.cells #[.int .i64 W, .int .i64 H, .slice a cells.length cap, .bool J] 40 (0, 0)) := heap_alloc_new w _
  have hs0 : (w.alloc (.cells #[.int .i64 W, .int .i64 H, .slice a cells.length cap, .bool J] 40)).heap.size = w.heap.size + 1 := by simp
  have hat0 : At (w.alloc (.cells #[.int .i64 W, .int .i64 H, .slice a cells.length cap, .bool J] 40)) a (byts cells) := hat.later rfl hb0
  go_enter Tryd.func52, Tryd.ntmps52
  go_wp2_with fail
  generalize w.alloc (.cells #[.int .i64 W, .int .i64 H, .slice a cells.length cap, .bool J] 40) = w0 at *
  refine (HFG.out _).mono ?_
  rintro e w1 ⟨a1, c1, rfl, hown1, hb1⟩
  have hGy := (hb1.block w.heap.size (by omega)).trans hG0
  have hy0 := cell_of_block hGy 0
  have hy1 := cell_of_block hGy 1
  have hy2 := cell_of_block hGy 2
  have hy3 := cell_of_block hGy 3
  simp at hy0 hy1 hy2 hy3
  have hGylt := block_lt hGy
  clear hGy
  go_wp2_with fail
  clear hy0 hy1 hy2 hy3
  have s1 := hb1.size
  have hb2 : Below w0.heap.size w0 (w1.alloc (.cells #[.int .i64 W, .int .i64 H, .slice a1 cells.length c1, .bool false] 40)) := hb1.alloc s1 _
  have hS2 : (w1.alloc (.cells #[.int .i64 W, .int .i64 H, .slice a1 cells.length c1, .bool false] 40)).heap[w1.heap.size]? = some (.cells #[.int .i64 W, .int .i64 H, .slice a1 cells.length c1, .bool false] 40 (0, 0)) := heap_alloc_new w1 _
  have hs2 : (w1.alloc (.cells #[.int .i64 W, .int .i64 H, .slice a1 cells.length c1, .bool false] 40)).heap.size = w1.heap.size + 1 := by simp
  have hown2 := hown1.later ((Below.refl _ w1).alloc (Nat.le_refl _) (.cells #[.int .i64 W, .int .i64 H, .slice a1 cells.length c1, .bool false] 40))
  have hblt := Lib.hid hown1.lt
  have hcap := hown1.cap
  generalize w1.alloc (.cells #[.int .i64 W, .int .i64 H, .slice a1 cells.length c1, .bool false] 40) = w2 at *
  have HG0 := Lib.hid hG0
  have HS2 := Lib.hid hS2
  have HZ2 := Lib.hid hs2
  generalize w1.heap.size = n1 at *
  clear hG0 hS2 hs2 hown1 hb1
  have hsz0 := hs0
  clear hs0
  go_loopw [14] (fun i wr => ∃ k : Nat, k ≤ cells.length ∧ i = .int .i64 k ∧ Owns wr w0.heap.size 5 (.slice a1 cells.length c1) (byts (picK cells (geoOf J W H) k)) ∧ Below w0.heap.size w0 wr ∧ Hid (wr.heap[n1]? = some (.cells #[.int .i64 W, .int .i64 H, .slice a1 cells.length c1, .bool false] 40 (0, 0)))) (fun i _ => cells.length - (intOf i).toNat)
  case atStart => exact ⟨0, Nat.zero_le _, rfl, by simpa [picK, picGo] using hown2, hb2, HS2.out⟩
  case round =>
    obtain ⟨k, hk, rfl, hownr, hbr, hSr⟩ := hrel
    have hx0 := cell_of_block hSr.out 0
    have hx1 := cell_of_block hSr.out 1
    have hx2 := cell_of_block hSr.out 2
    have hx3 := cell_of_block hSr.out 3
    simp at hx0 hx1 hx2 hx3
    have sr := hbr.size
    by_cases hlt : k < cells.length
    · have HLK := Lib.hid (picK_length (cells := cells) (V := geoOf J W H) (k := k) (Nat.le_of_lt hlt))
      obtain ⟨g, rfl, hg1, hg2⟩ := hownr.zero (by have := HLK.out; simp; omega)
      have hgn : g < n1 := (hblt.out g rfl).2
      obtain ⟨old, hcell⟩ : ∃ v, wr.cell? ⟨g, k, none⟩ = some v := by
        obtain ⟨g', o', he, hcell⟩ := byts_at hownr.at k (by have := HLK.out; omega)
        simp only [Option.some.injEq, Addr.mk.injEq, and_true] at he
        obtain ⟨rfl, rfl⟩ := he
        rw [Nat.zero_add] at hcell
        exact ⟨_, hcell⟩
      have hfr := hownr.froz k
      have HSet := Lib.hid (picK_set (cells := cells) (V := geoOf J W H) hlt)
      have hatr : At wr a (byts cells) := hat0.later rfl hbr
      obtain ⟨ba, oa, hae, hca⟩ := byts_at hatr k hlt
      have hGr : wr.heap[w.heap.size]? = some (.cells #[.int .i64 W, .int .i64 H, .slice a cells.length cap, .bool J] 40 (0, 0)) := (hbr.block _ (by omega)).trans HG0.out
      have hat3 : At (wr.setCell ⟨g, k, none⟩ (.int .u8 (cells[k].toNat : Int))) a (byts cells) := hat0.later rfl (hbr.trans ((Below.set k _).mono hg1))
      have hG3 : (wr.setCell ⟨g, k, none⟩ (.int .u8 (cells[k].toNat : Int))).heap[w.heap.size]? = some (.cells #[.int .i64 W, .int .i64 H, .slice a cells.length cap, .bool J] 40 (0, 0)) := (block_other (w := wr) (show w.heap.size ≠ g by omega) k _).trans hGr
      have hown3 : Owns (wr.setCell ⟨g, k, none⟩ (.int .u8 (cells[k].toNat : Int))) w0.heap.size 5 (.slice (some ⟨g, 0, none⟩) cells.length c1) (byts ((picK cells (geoOf J W H) k).set k cells[k])) := by
        have h := hownr.put k (.int .u8 (cells[k].toNat : Int))
        rw [byts_set] at h
        exact h
      have hS3 := (block_other (w := wr) (show n1 ≠ g by omega) k (.int .u8 (cells[k].toNat : Int))).trans hSr.out
      have hb3 : Below w0.heap.size w0 (wr.setCell ⟨g, k, none⟩ (.int .u8 (cells[k].toNat : Int))) := hbr.trans ((Below.set k _).mono hg1)
      have hy0 := cell_of_block hG3 0
      have hy1 := cell_of_block hG3 1
      have hy2 := cell_of_block hG3 2
      have hy3 := cell_of_block hG3 3
      simp at hy0 hy1 hy2 hy3
      have hgd : cells.getD k 0 = cells[k] := by simp [List.getD, hlt]
      have hmine := fun w h => isMine_any (J := J) W H a cells cap k w h hlt h64
      clear hGr
      subst hae
      by_cases h42 : cells[k] = 42
      · have hd : ((cells[k].toNat : Int) == 42) = true := by rw [is42]; simp [h42]
        have HB : Hid (picB cells (geoOf J W H) k = cells[k]) := by rw [Hid, picB, if_pos (by rw [hgd]; exact h42), h42]
        rw [hd] at hmine
        have HM := Lib.hid hmine
        have hs3 := HSet.out
        rw [HB.out] at hs3
        have HS3 := Lib.hid hs3
        clear h42 hgd hmine hs3
        go_wp2_with fail
        generalize wr.setCell ⟨g, k, none⟩ (.int .u8 (cells[k].toNat : Int)) = w3 at *
        have hn13 : n1 < w3.heap.size := block_lt hS3
        refine (HM.out _ hat3).mono ?_
        rintro e w4 ⟨rfl, hb4⟩
        clear hy0 hy1 hy2 hy3 hx0 hx1 hx2 hx3 hcell hca
        go_wp2_with fail
        go_roundw
        case rel => exact ⟨k + 1, by omega, by go_num, by rw [← HS3.out]; exact hown3.later hb4, hb3.trans (hb4.mono hb3.size), (hb4.block _ hn13).trans hS3⟩
        case measure => simp [intOf]; omega
      · have hd : ((cells[k].toNat : Int) == 42) = false := by rw [is42]; simp [h42]
        have HB : Hid (picB cells (geoOf J W H) k = digB (numM cells (geoOf J W H) k)) := by rw [Hid, picB, if_neg (by rw [hgd]; exact h42)]
        rw [hd] at hmine
        have HM := Lib.hid hmine
        clear h42 hgd hmine
        go_wp2_with fail
        generalize wr.setCell ⟨g, k, none⟩ (.int .u8 (cells[k].toNat : Int)) = w3 at *
        have hn13 : n1 < w3.heap.size := block_lt hS3
        have hGlt : w.heap.size < w3.heap.size := block_lt hG3
        refine (HM.out _ hat3).mono ?_
        rintro e w4 ⟨rfl, hb4⟩
        clear hy0 hy1 hy2 hy3 hx0 hx1 hx2 hx3 hcell hca hownr hbr hSr hatr hfr
        have hWH : (1 ≤ W ∧ W ≤ 1048576) ∧ (1 ≤ H ∧ H ≤ 1048576) := by
          have := HN.out
          rcases hz with h | h
          · rw [h.1] at this; omega
          · omega
        have hnum := fun w h => numberJ_any (J := J) W H (some ⟨ba, oa, none⟩) cells cap k w h hWH.1.1 hlt h64 (fun _ => hWH)
        have h9 := numJ_nine J cells W H k hW8 hH8 HN.out hlt
        have hat4 := hat3.later rfl hb4
        have hown4 := hown3.later hb4
        have hG4 := (hb4.block _ hGlt).trans hG3
        have hS4 := (hb4.block _ hn13).trans hS3
        have hb04 := hb3.trans (hb4.mono hb3.size)
        have s4 := hb4.size
        clear hat3 hown3 hG3 hS3 hb3 hb4
        have hA : ∀ w' : World, Below w4.heap.size w4 w' → w'.cell? ⟨w.heap.size, 0, none⟩ = some (.int .i64 W) ∧ w'.cell? ⟨w.heap.size, 1, none⟩ = some (.int .i64 H) ∧ w'.cell? ⟨w.heap.size, 2, none⟩ = some (.slice (some ⟨ba, oa, none⟩) cells.length cap) ∧ w'.cell? ⟨w.heap.size, 3, none⟩ = some (.bool J) ∧ w'.cell? ⟨n1, 2, none⟩ = some (.slice (some ⟨g, 0, none⟩) cells.length c1) := by
          intro w' h
          have q := (h.block _ (by omega)).trans hG4
          have r := (h.block _ (by omega)).trans hS4
          have q0 := cell_of_block q 0
          have q1 := cell_of_block q 1
          have q2 := cell_of_block q 2
          have q3 := cell_of_block q 3
          have r2 := cell_of_block r 2
          simp at q0 q1 q2 q3 r2
          exact ⟨q0, q1, q2, q3, r2⟩
        have hdr : Below w4.heap.size w4 w4.drew := (Below.refl _ w4).drew
        have HA := Lib.hid hA
        have hAS : ∀ (w' : World) (v : Value), Below w4.heap.size w4 w' → (w'.setCell ⟨g, k, none⟩ v).cell? ⟨w.heap.size, 0, none⟩ = some (.int .i64 W) ∧ (w'.setCell ⟨g, k, none⟩ v).cell? ⟨w.heap.size, 1, none⟩ = some (.int .i64 H) ∧ (w'.setCell ⟨g, k, none⟩ v).cell? ⟨w.heap.size, 2, none⟩ = some (.slice (some ⟨ba, oa, none⟩) cells.length cap) ∧ (w'.setCell ⟨g, k, none⟩ v).cell? ⟨w.heap.size, 3, none⟩ = some (.bool J) ∧ (w'.setCell ⟨g, k, none⟩ v).cell? ⟨n1, 2, none⟩ = some (.slice (some ⟨g, 0, none⟩) cells.length c1) := by
          intro w' v h
          have q := (block_other (w := w') (show w.heap.size ≠ g by omega) k v).trans ((h.block _ (by omega)).trans hG4)
          have r := (block_other (w := w') (show n1 ≠ g by omega) k v).trans ((h.block _ (by omega)).trans hS4)
          have q0 := cell_of_block q 0
          have q1 := cell_of_block q 1
          have q2 := cell_of_block q 2
          have q3 := cell_of_block q 3
          have r2 := cell_of_block r 2
          simp at q0 q1 q2 q3 r2
          exact ⟨q0, q1, q2, q3, r2⟩
        have HAS := Lib.hid hAS
        have hownd : ∀ w', Below w4.heap.size w4 w' → ∃ old, w'.cell? ⟨g, k, none⟩ = some old ∧ w'.frozen? ⟨g, k, none⟩ = false := by
          intro w' h
          have ho := hown4.later h
          obtain ⟨g', o', he, hcell⟩ := byts_at ho.at k (by rw [List.length_set]; have := HLK.out; omega)
          simp only [Option.some.injEq, Addr.mk.injEq, and_true] at he
          obtain ⟨rfl, rfl⟩ := he
          rw [Nat.zero_add] at hcell
          exact ⟨_, hcell, ho.froz k⟩
        have HOD := Lib.hid hownd
        clear hownd hA hAS hG4
        go_wp2_with fail
        go_region_held3 (fun w' => w'.cell? ⟨w.heap.size, 0, none⟩ = some (.int .i64 W) ∧ w'.cell? ⟨w.heap.size, 1, none⟩ = some (.int .i64 H) ∧ w'.cell? ⟨w.heap.size, 2, none⟩ = some (.slice (some ⟨ba, oa, none⟩) cells.length cap) ∧ w'.cell? ⟨w.heap.size, 3, none⟩ = some (.bool J) ∧ w'.cell? ⟨n1, 2, none⟩ = some (.slice (some ⟨g, 0, none⟩) cells.length c1))
          (first | with_reducible exact HA.out _ hdr | with_reducible exact HA.out _ hb34 | with_reducible exact HAS.out _ _ hb34)
          ((first | (go_at_call 47; refine (hnum _ (by exact hat4.drew)).mono ?_; rintro e w5 ⟨rfl, hb5⟩; have hb34 : Below w4.heap.size w4 w5 := ofDrew hb5; obtain ⟨old4, hc4, hf4⟩ := HOD.out _ hb34) | (go_at_call 67; refine (digit_any _ _ h9).mono ?_; rintro e w6 ⟨rfl, rfl⟩)))
        have hown5 := (hown4.later hb34).put k (.int .u8 ((digB (numM cells (geoOf J W H) k)).toNat : Int))
        rw [byts_set, List.set_set, ← HB.out, HSet.out] at hown5
        have hS5 := (block_other (w := w5) (show n1 ≠ g by omega) k (.int .u8 ((digB (numM cells (geoOf J W H) k)).toNat : Int))).trans ((hb34.block _ (by omega)).trans hS4)
        have hb5' := (hb04.trans (hb34.mono hb04.size)).trans ((Below.set (w := w5) (g := g) k (.int .u8 ((digB (numM cells (geoOf J W H) k)).toNat : Int))).mono hg1)
        rw [HB.out] at hown5
        clear hnum hb5 hc4 hf4
        go_wp2_with fail
        go_roundw
        case rel => exact ⟨k + 1, by omega, by go_num, hown5, hb5', hS5⟩
        case measure => simp [intOf]; omega
    · obtain rfl : k = cells.length := by omega
      have ht := fun w h hc => text_any W H a1 (picGo cells (geoOf J W H) 0 cells.length) c1 w h hc (by rw [picGo_length]; exact HN.out) hz
      rw [picK_all] at hownr
      rw [picGo_length] at ht
      have hat1 := hownr.at
      have HT := Lib.hid ht
      clear ht
      go_wp2_with fail
      refine (HT.out _ hat1 hcap).mono ?_
      rintro e w5 ⟨rfl, hb5⟩
      go_wp2_with fail
      go_ret
      exact ⟨rfl, (hb0.trans (hbr.mono (by omega))).trans (hb5.mono (by omega))⟩

set_option maxRecDepth 100000 in
set_option maxHeartbeats 800000 in
theorem iPictureOf_any (l : List UInt8) (w : World) (hM : HasMax w) (hl : l.length ≤ 1048576) :
    Calls Tryd.prog 31 #[.string ⟨l.toArray⟩] w fun e w' => e = .returned (.tuple #[.string ⟨(piM l).toArray⟩, .bool (boGoodM l)]) ∧ Below w.heap.size w w' := by
  have hpc := fun w a cap h => pictureJ_any (J := false) (gW l) (gH l) a (gCells l) cap w h (gCells_len l) (gSize l)
  rw [show textM (picGo (gCells l) (geoOf false (gW l) (gH l)) 0 (gCells l).length) (gW l) (gH l) = piM l from rfl] at hpc
  have HPC := Lib.hid hpc
  clear hpc
  go_enter Tryd.func31, Tryd.ntmps31
  go_wp2_with fail
  refine (readBoard_any l _ hM hl).mono ?_
  rintro e w1 ⟨a, cap, rfl, hown, hb⟩
  have s1 := hb.size
  have hat : ∀ o, At (w1.alloc o) a (byts (gCells l)) := fun o => (hown.at).later rfl ((Below.refl _ _).alloc (Nat.le_refl _) _)
  go_wp2_with fail
  refine (HPC.out _ a cap (hat _)).mono ?_
  rintro e w2 ⟨rfl, hb2⟩
  go_wp2_with fail
  go_ret2
  exact ⟨rfl, (hb.alloc s1 _).trans (hb2.mono (by simp; omega))⟩
end Go.Proofs.YtndmkbkmfonefaaDoor
