/- Listed boards by the program: a board with one more cell. -/
import Derived.Test.YthlbplmghjaeoaeKB
import Derived.Test.YthlbplmghjaeoaeGN1
import Derived.Deep.DeepCutAuto
import Derived.Deep.MidRow
import Derived.Outline
namespace Go.Proofs.Ythlbplmghjaeoae
open Go.RowKit

def zer : Array Value := #[.int .u8 0, .int .u8 0, .int .u8 0, .int .u8 0, .int .u8 0, .int .u8 0, .int .u8 0, .int .u8 0, .int .u8 0, .int .u8 0, .int .u8 0, .int .u8 0, .int .u8 0, .int .u8 0, .int .u8 0, .int .u8 0, .int .u8 0, .int .u8 0, .int .u8 0, .int .u8 0, .int .u8 0, .int .u8 0, .int .u8 0, .int .u8 0]
theorem zer24 (i : Nat) (hi : i < 24) : zer[i]? = some (.int .u8 0) := by
  show ((List.replicate 24 (Value.int .u8 0)).toArray)[i]? = _
  exact (List.getElem?_toArray ..).trans (by simp only [List.getElem?_replicate, if_pos hi])
theorem away_setK {w : World} {g b : Nat} (h : b ≠ g) {j : Nat} {v : Value} : (w.setCell ⟨g, j, none⟩ v).heap[b]? = w.heap[b]? := by
  simp [World.setCell, Array.getElem?_modify, Ne.symm h]
theorem u8_succ (b : UInt8) : IntKind.u8.wrap ((b.toNat : Int) + 1) = ((b + 1).toNat : Int) := by
  have h := b.toNat_lt
  rw [UInt8.toNat_add]
  simp [IntKind.wrap, IntKind.bits, IntKind.signed]
theorem byts_setK (l : List UInt8) (k : Nat) (c : UInt8) : (byts l).set k (.int .u8 (c.toNat : Int)) = byts (l.set k c) := by
  simp [byts, List.map_set]
theorem encB_set (y z : LB) (i : Nat) (b : UInt8) (h : z.1 = y.1.set i b) : (encB y).toArray.setIfInBounds i (.int .u8 (b.toNat : Int)) = (encB z).toArray := by
  unfold encB
  rw [List.setIfInBounds_toArray, byts_setK, h]

theorem range24 {w : World} {g : Nat} {y : LB} {t : TypeId} (h : w.heap[g]? = some (.cells (encB y).toArray t (0, 0))) : w.rangeAt g 0 (encB y) := fun j v hv => by
  rw [Nat.zero_add, cell_of_block h j]; exact (List.getElem?_toArray ..).trans hv
theorem there24 {w : World} {g : Nat} {cur : Array Value} {t : TypeId} (h : w.heap[g]? = some (.cells cur t (0, 0))) (hc : cur.size = 24) : w.there g 0 24 := fun j hj => by
  rw [Nat.zero_add, cell_of_block h j]
  exact ⟨by simp [hc, hj], frozen_of_block h j⟩
theorem encB_size (y : LB) : (encB y).toArray.size = 24 := by rw [List.size_toArray, encB_len]
theorem results_cell {P : Program} {fn : Func} {a : Tmp} {t : TypeId} {tmps : Array Value} {w : World} {ad : Addr} {v : Value} (h : fn.results = #[.cell a t]) (ha : tmps.getD a undef = .pointer (some ad)) (hl : (loadVar t ad).run P w = .ok v w) : (results fn tmps).run P w = .ok v w := by
  have ha' : tmps[a]?.getD undef = .pointer (some ad) := by simpa using ha
  simp [results, h, ha', asAddr, hl]
theorem below_setCells {g : Nat} : ∀ (vs : List Value) (o : Nat) {B : Nat} {w w' : World}, Below B w w' → B ≤ g → Below B w (w'.setCells g o vs)
  | [], _, _, _, _, h, _ => h
  | v :: r, o, B, w, w', h, hg => by
    rw [World.setCells]
    exact below_setCells r (o + 1) (h.trans ((Below.set o v).mono hg)) hg
theorem und67 : Try.prog.underlying 45 = Try.prog.underlying 45 := rfl
theorem inf67 : (Try.prog.info? 45).map (·.size) = some 24 := by kernel_rfl

set_option maxRecDepth 100000 in
set_option maxHeartbeats 6400000 in
theorem lbWith_any (x : LB) (c : Nat) (s : UInt8) (near : List Nat) (a : Option Addr) (cap : Nat) (w : World) (hc : c < 12) (hn : ∀ o ∈ near, o < 12) (hl : near.length ≤ 12) (hat : At w a (nats near)) :
    Calls Try.prog 82 #[.agg (encB x).toArray, .int .i64 c, .int .u8 (s.toNat : Int), .slice a near.length cap] w fun e w' => e = .returned (.agg (encB (x.wth c s near)).toArray) ∧ Below w.heap.size w w' := by
  have hxc := encB_get x c (by omega)
  go_enter Try.func82, Try.ntmps82
  go_upto_region 1 with fail
  have hB1 : ((w.alloc (.cells (encB x).toArray 45)).alloc (.cells #[.int .u8 0, .int .u8 0, .int .u8 0, .int .u8 0, .int .u8 0, .int .u8 0, .int .u8 0, .int .u8 0, .int .u8 0, .int .u8 0, .int .u8 0, .int .u8 0, .int .u8 0, .int .u8 0, .int .u8 0, .int .u8 0, .int .u8 0, .int .u8 0, .int .u8 0, .int .u8 0, .int .u8 0, .int .u8 0, .int .u8 0, .int .u8 0] 45)).heap[w.heap.size]? = some (.cells (encB x).toArray 45 (0, 0)) := by
    rw [Below.heap_alloc _ _ _ (by simp)]; exact heap_alloc_new w _
  have hR1 : Hid (((w.alloc (.cells (encB x).toArray 45)).alloc (.cells #[.int .u8 0, .int .u8 0, .int .u8 0, .int .u8 0, .int .u8 0, .int .u8 0, .int .u8 0, .int .u8 0, .int .u8 0, .int .u8 0, .int .u8 0, .int .u8 0, .int .u8 0, .int .u8 0, .int .u8 0, .int .u8 0, .int .u8 0, .int .u8 0, .int .u8 0, .int .u8 0, .int .u8 0, .int .u8 0, .int .u8 0, .int .u8 0] 45)).heap[w.heap.size + 1]? = some (.cells zer 45 (0, 0))) := by
    have h := heap_alloc_new (w.alloc (.cells (encB x).toArray 45)) (.cells #[.int .u8 0, .int .u8 0, .int .u8 0, .int .u8 0, .int .u8 0, .int .u8 0, .int .u8 0, .int .u8 0, .int .u8 0, .int .u8 0, .int .u8 0, .int .u8 0, .int .u8 0, .int .u8 0, .int .u8 0, .int .u8 0, .int .u8 0, .int .u8 0, .int .u8 0, .int .u8 0, .int .u8 0, .int .u8 0, .int .u8 0, .int .u8 0] 45)
    rw [show (w.alloc (.cells (encB x).toArray 45)).heap.size = w.heap.size + 1 by simp] at h
    exact h
  have hb1 : Below w.heap.size w ((w.alloc (.cells (encB x).toArray 45)).alloc (.cells #[.int .u8 0, .int .u8 0, .int .u8 0, .int .u8 0, .int .u8 0, .int .u8 0, .int .u8 0, .int .u8 0, .int .u8 0, .int .u8 0, .int .u8 0, .int .u8 0, .int .u8 0, .int .u8 0, .int .u8 0, .int .u8 0, .int .u8 0, .int .u8 0, .int .u8 0, .int .u8 0, .int .u8 0, .int .u8 0, .int .u8 0, .int .u8 0] 45)) := ((Below.refl _ _).alloc (Nat.le_refl _) _).alloc (by simp) _
  generalize (w.alloc (.cells (encB x).toArray 45)).alloc (.cells #[.int .u8 0, .int .u8 0, .int .u8 0, .int .u8 0, .int .u8 0, .int .u8 0, .int .u8 0, .int .u8 0, .int .u8 0, .int .u8 0, .int .u8 0, .int .u8 0, .int .u8 0, .int .u8 0, .int .u8 0, .int .u8 0, .int .u8 0, .int .u8 0, .int .u8 0, .int .u8 0, .int .u8 0, .int .u8 0, .int .u8 0, .int .u8 0] 45) = w1 at *
  have hc1 : w1.cell? ⟨w.heap.size, c, none⟩ = some (.int .u8 ((x.at c).toNat : Int)) := by
    rw [cell_of_block hB1 c]; exact (List.getElem?_toArray ..).trans hxc
  have hf1 := frozen_of_block hB1 c
  obtain ⟨y0, hy0⟩ : ∃ y : LB, y.1 = x.1.set c s := ⟨⟨x.1.set c s, by rw [List.length_set, x.2]⟩, rfl⟩
  have hBr : Hid ((w1.setCell ⟨w.heap.size, c, none⟩ (.int .u8 (s.toNat : Int))).heap[w.heap.size]? = some (.cells (encB y0).toArray 45 (0, 0))) := by
    rw [Hid, block_set hB1 c _, encB_set x y0 c s hy0]
  have hRr : Hid ((w1.setCell ⟨w.heap.size, c, none⟩ (.int .u8 (s.toNat : Int))).heap[w.heap.size + 1]? = some (.cells zer 45 (0, 0))) := by
    rw [Hid, away_setK (by omega)]; exact hR1.out
  have hbr : Below w.heap.size w (w1.setCell ⟨w.heap.size, c, none⟩ (.int .u8 (s.toNat : Int))) := hb1.trans (Below.set c _)
  clear hB1 hR1 hb1 hxc
  cases d : ((s.toNat : Int) == 42) with
  | false =>
    have HY : Hid (x.wth c s near = y0) := by
      have : ¬ s = 42 := by rw [is42] at d; simpa using d
      exact Subtype.ext (by rw [hy0]; exact if_neg this)
    go_upto_region 8 with fail
    generalize w1.setCell ⟨w.heap.size, c, none⟩ (.int .u8 (s.toNat : Int)) = wr at *
    clear hc1 hf1 hat
    refine wp_region_lit ?_
    refine wpList_load_mid rfl 45 _ rfl w.heap.size 0 rfl (encB y0) _ (range24 hBr.out) Try.underlying45 rfl (inf67.trans (by rw [encB_len])) ?_
    refine wpList_store_mid rfl 45 _ _ rfl (w.heap.size + 1) 0 (encB y0).toArray rfl rfl (by rw [encB_size]; exact there24 hRr.out rfl) (inf67.trans (by rw [encB_size])) (all_oneCell_toArray (encB_one y0)) ?_
    refine wpList_nil ?_
    have hR2 := World.rangeAt_setCells_same wr (w.heap.size + 1) 0 (encB y0) (by rw [encB_len]; exact there24 hRr.out rfl)
    have hb2 := below_setCells (g := w.heap.size + 1) (encB y0) 0 hbr (Nat.le_succ _)
    go_wp2_with fail
    refine bodyPost_ret (v := .agg (encB y0).toArray) (results_cell rfl rfl (run_loadVar_mid _ _ _ 45 (encB y0) _ hR2 Try.underlying45 rfl (inf67.trans (by rw [encB_len])))) rfl ?_
    exact ⟨by rw [HY.out], hb2⟩
  | true =>
    have hs42 : s = 42 := by rw [is42] at d; simpa using d
    have HW : Hid (∀ y : LB, y.1 = near.foldl bump (x.1.set c s) → x.wth c s near = y) := fun y hy => Subtype.ext ((if_pos hs42).trans hy.symm)
    clear hs42
    go_upto_region 4 with fail
    clear hc1 hf1
    generalize w1.setCell ⟨w.heap.size, c, none⟩ (.int .u8 (s.toNat : Int)) = w2 at *
    go_loopw [19] (fun i wr => ∃ k : Nat, k ≤ near.length ∧ i = .int .i64 k ∧ ∃ y : LB, Hid (y.1 = (near.take k).foldl bump (x.1.set c s)) ∧ Hid (wr.heap[w.heap.size]? = some (.cells (encB y).toArray 45 (0, 0))) ∧ Hid (wr.heap[w.heap.size + 1]? = some (.cells zer 45 (0, 0))) ∧ Below w.heap.size w wr) (fun i _ => near.length - (intOf i).toNat)
    case atStart => exact ⟨0, Nat.zero_le _, rfl, y0, hy0, hBr, hRr, hbr⟩
    case round =>
      clear hBr hRr hbr
      obtain ⟨k, hk, rfl, y, hy, hBr, hRr, hbr⟩ := hrel
      by_cases hlt : k < near.length
      · have hatr : At wr a (nats near) := hat.later rfl hbr
        obtain ⟨ab, ao, hab, hcell⟩ := nats_at hatr k hlt
        subst hab
        have ho := hn near[k] (List.getElem_mem hlt)
        have hNX : Hid ((near.take (k + 1)).foldl bump (x.1.set c s) = bump ((near.take k).foldl bump (x.1.set c s)) near[k]) := by
          rw [Hid, List.take_succ_eq_append_getElem hlt, List.foldl_append]; rfl
        generalize near[k] = o at *
        have hcb : wr.cell? ⟨w.heap.size, 12 + o, none⟩ = some (.int .u8 ((y.at (12 + o)).toNat : Int)) := by
          rw [cell_of_block hBr.out]; exact (List.getElem?_toArray ..).trans (encB_get y (12 + o) (by omega))
        have hfb := frozen_of_block hBr.out (12 + o)
        have hu := u8_succ (y.at (12 + o))
        obtain ⟨y', hy'⟩ : ∃ y' : LB, y'.1 = bump y.1 o := ⟨⟨bump y.1 o, by rw [bump_length, y.2]⟩, rfl⟩
        have hBr' : Hid ((wr.setCell ⟨w.heap.size, 12 + o, none⟩ (.int .u8 ((y.at (12 + o) + 1).toNat : Int))).heap[w.heap.size]? = some (.cells (encB y').toArray 45 (0, 0))) := by
          rw [Hid, block_set hBr.out (12 + o) _, encB_set y y' (12 + o) (y.at (12 + o) + 1) hy']
        have hRr' : Hid ((wr.setCell ⟨w.heap.size, 12 + o, none⟩ (.int .u8 ((y.at (12 + o) + 1).toNat : Int))).heap[w.heap.size + 1]? = some (.cells zer 45 (0, 0))) := by
          rw [Hid, away_setK (by omega)]; exact hRr.out
        have hbr' : Below w.heap.size w (wr.setCell ⟨w.heap.size, 12 + o, none⟩ (.int .u8 ((y.at (12 + o) + 1).toNat : Int))) := hbr.trans (Below.set _ _)
        have HY' : Hid (y'.1 = (near.take (k + 1)).foldl bump (x.1.set c s)) := by rw [Hid, hNX.out, ← hy.out, hy']
        go_wp2_with fail
        go_roundw
        case rel => exact ⟨k + 1, by omega, by go_num, y', HY', hBr', hRr', hbr'⟩
        case measure => simp [intOf]; omega
      · obtain rfl : k = near.length := by omega
        have HY : Hid (x.wth c s near = y) := HW.out y (by rw [hy.out, List.take_length])
        go_upto_region 8 with fail
        refine wp_region_lit ?_
        refine wpList_load_mid rfl 45 _ rfl w.heap.size 0 rfl (encB y) _ (range24 hBr.out) Try.underlying45 rfl (inf67.trans (by rw [encB_len])) ?_
        refine wpList_store_mid rfl 45 _ _ rfl (w.heap.size + 1) 0 (encB y).toArray rfl rfl (by rw [encB_size]; exact there24 hRr.out rfl) (inf67.trans (by rw [encB_size])) (all_oneCell_toArray (encB_one y)) ?_
        refine wpList_nil ?_
        have hR2 := World.rangeAt_setCells_same wr (w.heap.size + 1) 0 (encB y) (by rw [encB_len]; exact there24 hRr.out rfl)
        have hb2 := below_setCells (g := w.heap.size + 1) (encB y) 0 hbr (Nat.le_succ _)
        go_wp2_with fail
        refine bodyPost_ret (v := .agg (encB y).toArray) (results_cell rfl rfl (run_loadVar_mid _ _ _ 45 (encB y) _ hR2 Try.underlying45 rfl (inf67.trans (by rw [encB_len])))) rfl ?_
        exact ⟨by rw [HY.out], hb2⟩
end Go.Proofs.Ythlbplmghjaeoae
