/- Listed boards by the program: their traits, and what the calls leave behind. -/
import Derived.Test.YthlbplmghjaeoaeGK0
import Derived.Outline
import Derived.Shelf.SlSortCmp.QuietGrown
import Derived.Deep.MidRow
import Derived.Shelf.SlicesQ.Load
import Derived.Test.YthlbplmghjaeoaeKO
import Derived.Lib.Hide
namespace Go.Proofs.Ythlbplmghjaeoae
open Go.RowKit

set_option maxRecDepth 100000 in
set_option maxHeartbeats 1600000 in
theorem lbMinesA_any (x : LB) (w : World) :
    Calls Try.prog 31 #[.agg (encB x).toArray] w fun e w' => e = .returned (.int .i64 (x.mns : Nat)) ∧ ∃ o, w' = w.alloc o := by
  have h0 := encB_get x 0 (by decide)
  have h1 := encB_get x 1 (by decide)
  have h2 := encB_get x 2 (by decide)
  have h3 := encB_get x 3 (by decide)
  have h4 := encB_get x 4 (by decide)
  have h5 := encB_get x 5 (by decide)
  have h6 := encB_get x 6 (by decide)
  have h7 := encB_get x 7 (by decide)
  have h8 := encB_get x 8 (by decide)
  have h9 := encB_get x 9 (by decide)
  have h10 := encB_get x 10 (by decide)
  have h11 := encB_get x 11 (by decide)
  go_enter Try.func31, Try.ntmps31
  go_wp2_with fail
  rw [sgA_eq]
  have HA : ∀ i : Nat, i < 12 → (sgA x)[i]? = some (.int .u8 ((x.at i).toNat : Int)) := sgA_get x
  generalize sgA x = arr at *
  have hw1 : Hid (∃ o, w.alloc (.cells (encB x).toArray 45) = w.alloc o) := ⟨_, rfl⟩
  have HB : ∀ i : Nat, i < 24 → (w.alloc (.cells (encB x).toArray 45)).cell? ⟨w.heap.size, i, none⟩ = some (.int .u8 ((x.at i).toNat : Int)) := boxB_cell x w _
  generalize w.alloc (.cells (encB x).toArray 45) = w1 at *
  clear h0 h1 h2 h3 h4 h5 h6 h7 h8 h9 h10 h11
  have HAh := Lib.hid HA
  have HBh := Lib.hid HB
  clear HA HB
  go_loop [3, 8] (fun cnt i => ∃ k : Nat, k ≤ 12 ∧ i = .int .i64 k ∧ cnt = .int .i64 ((x.mnK k : Nat) : Int)) (fun _ i => 12 - (intOf i).toNat)
  case atStart => exact ⟨0, Nat.zero_le _, rfl, rfl⟩
  case round =>
    obtain ⟨k, hk, rfl, rfl⟩ := hrel
    by_cases hlt : k < 12
    · have ha := idx12 arr k _ hlt (HAh.out k hlt)
      have hle := x.mnK_le k
      have HS : Hid (x.mnK (k + 1) = x.mnK k + if (((x.at k).toNat : Int) == 42) = true then 1 else 0) := rfl
      cases d : (((x.at k).toNat : Int) == 42) with
      | true =>
        rw [d] at HS
        go_wp2_with fail
        go_round
        case rel => exact ⟨k + 1, by omega, by go_num, by rw [HS.out, if_pos rfl]; go_num⟩
        case measure => simp [intOf]; omega
      | false =>
        rw [d] at HS
        go_wp2_with fail
        go_round
        case rel => exact ⟨k + 1, by omega, by go_num, by rw [HS.out, if_neg (by decide)]; rfl⟩
        case measure => simp [intOf]; omega
    · obtain rfl : k = 12 := by omega
      go_wp2_with fail
      go_ret
      exact ⟨rfl, hw1.out⟩

open Go.Sort Go.Lib Go.Shelf
set_option maxRecDepth 100000 in
set_option maxHeartbeats 400000 in
theorem sortCl_k (k : Nat) (zE : ∀ w, (Go.sizeOf 45).run Try.prog w = .ok k w) (hkk : ∀ z : LB, (encB z).length = k) (x y : LB) (p F : Nat) (key : LB → Nat) (hk : ∀ z, key z ≤ 100000) (eg : ∀ args w, (callFunc F args).run Try.prog w = .ok (.enter F args) w)
    (hF : ∀ z w, Calls Try.prog F #[.agg (encB z).toArray] w fun e w' => e = .returned (.int .i64 (key z : Nat)) ∧ ∃ o, w' = w.alloc o) (w : World) (hc : w.cell? ⟨p, 0, none⟩ = some (.func (.func F) #[] #[])) :
    Calls Try.prog 74 #[.agg (encB x).toArray, .agg (encB y).toArray, .pointer (some ⟨p, 0, none⟩)] w fun e w' => e = .returned (.int .i64 ((key x : Int) - (key y : Int))) ∧ ∃ q os', w' = grow (w.drewN q) os' := by
  have mixed : Try.prog.follows .mixedOrders = true := by kernel_rfl
  have hkx := hk x
  have hky := hk y
  have hFg : ∀ z w, Calls Try.prog F #[.agg (encB z).toArray] w fun e w' => e = .returned (.int .i64 (key z : Nat)) ∧ ∃ q os', w' = grow (w.drewN q) os' := fun z w => (hF z w).mono fun e w' ⟨h1, o, h2⟩ => ⟨h1, 0, #[o], by rw [h2, alloc_eq_grow]; rfl⟩
  have HF := Lib.hid hFg
  have HC := Lib.hid hc
  have HKK := Lib.hid hkk
  clear hc hF hFg hk hkk
  go_enter Try.func74, Try.ntmps74
  go_wp2_with fail
  have hs1 : (w.alloc (.cells (encB x).toArray 45)).heap.size = w.heap.size + 1 := by simp
  have hlp : p < w.heap.size := by have := World.block_lt_of_cell? _ _ HC.out; simpa using this
  have hX0 : (w.alloc (.cells (encB x).toArray 45)).heap[w.heap.size]? = some (.cells (encB x).toArray 45 (0, 0)) := heap_alloc_new w _
  have hX : ((w.alloc (.cells (encB x).toArray 45)).alloc (.cells (encB y).toArray 45)).heap[w.heap.size]? = some (.cells (encB x).toArray 45 (0, 0)) := by
    rw [Below.heap_alloc _ _ _ (by rw [hs1]; omega)]; exact hX0
  have hY : ((w.alloc (.cells (encB x).toArray 45)).alloc (.cells (encB y).toArray 45)).heap[w.heap.size + 1]? = some (.cells (encB y).toArray 45 (0, 0)) := by
    have := heap_alloc_new (w.alloc (.cells (encB x).toArray 45)) (.cells (encB y).toArray 45)
    rw [hs1] at this
    exact this
  have hP : ((w.alloc (.cells (encB x).toArray 45)).alloc (.cells (encB y).toArray 45)).cell? ⟨p, 0, none⟩ = some (.func (.func F) #[] #[]) := by
    rw [← HC.out]
    refine World.cell?_of_block ?_
    rw [Below.heap_alloc _ _ _ (by rw [hs1]; show p < _; omega), Below.heap_alloc _ _ _ (show p < _ from hlp)]
  have hG : (w.alloc (.cells (encB x).toArray 45)).alloc (.cells (encB y).toArray 45) = grow w #[.cells (encB x).toArray 45 (0, 0), .cells (encB y).toArray 45 (0, 0)] := by
    rw [alloc_eq_grow, alloc_eq_grow, grow_grow]; rfl
  have HG := Lib.hid hG
  clear hX0 hG hs1
  generalize (w.alloc (.cells (encB x).toArray 45)).alloc (.cells (encB y).toArray 45) = w2 at *
  have hbx := block_lt hX
  have hby := block_lt hY
  have hbp : p < w2.heap.size := by omega
  have lx : ∀ n os, Sem.run Try.prog (loadCellsFrom ⟨w.heap.size, 0, none⟩ 0 k #[]) (grow (w2.drewN n) os) = .ok (encB x).toArray (grow (w2.drewN n) os) := fun n os =>
    run_loadCellsFrom_list _ _ _ _ k (HKK.out x) fun j v hv => by
      have h := cell_grown (w := w2) (a := ⟨w.heap.size, 0 + j, none⟩) (by exact hbx) (range24 hX j v hv) n os
      rw [show (Addr.add _ j : Addr) = _ from WideShapes.add_plain _ _ _]; exact h
  have ly : ∀ n os, Sem.run Try.prog (loadCellsFrom ⟨w.heap.size + 1, 0, none⟩ 0 k #[]) (grow (w2.drewN n) os) = .ok (encB y).toArray (grow (w2.drewN n) os) := fun n os =>
    run_loadCellsFrom_list _ _ _ _ k (HKK.out y) fun j v hv => by
      have h := cell_grown (w := w2) (a := ⟨w.heap.size + 1, 0 + j, none⟩) (by exact hby) (range24 hY j v hv) n os
      rw [show (Addr.add _ j : Addr) = _ from WideShapes.add_plain _ _ _]; exact h
  have lp : ∀ n os, (grow (w2.drewN n) os).cell? ⟨p, 0, none⟩ = some (.func (.func F) #[] #[]) := fun n os => cell_grown (by exact hbp) hP n os
  clear hX hY hP HC
  go_quiet_grown (first | (go_at_fn F; refine Calls.grown_of (HF.out _ _)))
  clear lx ly lp
  go_wp2_with fail
  go_ret
  have hwr : IntKind.i64.wrap ((key x : Int) - (key y : Int)) = (key x : Int) - (key y : Int) := IntWalk.i64_in _ ⟨by omega, by omega⟩
  refine ⟨congrArg (fun z => Ending.returned (Value.int .i64 z)) hwr, nq, #[.cells (encB x).toArray 45 (0, 0), .cells (encB y).toArray 45 (0, 0)] ++ osq, ?_⟩
  rw [HG.out]
  show grow (grow (w.drewN nq) _) osq = _
  rw [grow_grow]
end Go.Proofs.Ythlbplmghjaeoae
