/- GA, GB, laid as one text. -/
import Derived.Test.YthlbplmghjaeoaeG7
import Derived.Test.YthlbplmghjaeoaeGG8
import Derived.Shelf.SlSortCmp.InsertionK
import Derived.Shelf.SlLaysF0
import Derived.Shelf.SlGeneric
import Derived.Test.YthlbplmghjaeoaeGK0
import Derived.Outline
import Derived.Shelf.SlSortCmp.QuietGrown
import Derived.Deep.MidRow
import Derived.Shelf.SlicesQ.Load
import Derived.Test.YthlbplmghjaeoaeGKO
import Derived.Lib.Hide

/- Stable sorts: the library's insertion sort, laid. -/
namespace Go.Proofs.Ythlbplmghjaeoae
open Go.RowKit Go.Sort Go.Lib Go.Shelf

def insRen : Go.Shelf.Ren := ⟨fun | 20 => 99 | n => n, fun | 24 => 45 | 22 => 70 | 3 => 3 | 25 => 85 | 4 => 4 | 0 => 0 | n => n, fun | n => n⟩
theorem insLays : Go.Proofs.SlLaysF0.n20 Try.prog insRen := {
  mixed := by kernel_rfl
  f20 := ⟨Try.f99.name, by decide, Try.func99.trans (congrArg some (by kernel_rfl))⟩
  t0 := Try.underlying0
  a0 := Try.isAgg0
  z0 := Try.sizeOf0
  v0 := Try.zeroValue0
  t3 := Try.underlying3
  a3 := Try.isAgg3
  z3 := Try.sizeOf3
  v3 := Try.zeroValue3
  t4 := Try.underlying4
  a4 := Try.isAgg4
  z4 := Try.sizeOf4
  v4 := Try.zeroValue4
  t22 := Try.underlying70
  a22 := Try.isAgg70
  z22 := Try.sizeOf70
  v22 := Try.zeroValue70
  t25 := Try.underlying85
  a25 := Try.isAgg85
  z25 := Try.sizeOf85
  v25 := Try.zeroValue85 }
/-- The insertion sort, from a world of the sort's to a world of the sort's. -/
theorem insertion_w {α : Type} [Inhabited α] (k : Nat) (aE : ∀ w, (isAgg 45).run Try.prog w = .ok true w) (zE : ∀ w, (Go.sizeOf 45).run Try.prog w = .ok k w) (enc : α → List Value) (key : α → Nat) (cf : α → α → Int) (hcf : ∀ x y, ltK key x y = decide (cf x y < 0)) (g : Nat) (cb : Array Value) (blk off cap a b : Nat) (d0 d : Array α) (w0 w : World)
    (eg : ∀ args w, (callFunc g args).run Try.prog w = .ok (.enter g args) w) (hcmp : CmpLays Try.prog g cb enc k cf blk off d0.size w0) (R : RowK enc k w0 blk off d0) (hs : d.size = d0.size) (S : SWK enc k w0 blk off d w) (hab : a ≤ b) (hb : b ≤ d.size) (hsz : d.size < 4611686018427387904) :
    Calls Try.prog 99 #[.slice (some ⟨blk, off, none⟩) d.size cap, .int .i64 a, .int .i64 b, .func (.func g) #[] cb] w fun e w' => e = .returned (.tuple #[]) ∧ SWK enc k w0 blk off (Sort.insertionSort (ltK key) d a b) w' := by
  have hlt : ltOf cf = ltK key := by
    funext x y
    rw [hcf]; rfl
  have hO : SWO (ltK key) := {
    irrefl := fun x => by simp [ltK]
    trans := fun x y z h1 h2 => by simp [ltK] at *; omega
    ntrans := fun x y z h1 h2 => by simp [ltK] at *; omega }
  have hs' : (Sort.insertionSort (ltK key) d a b).size = d.size := (insertionSort_holds hO d a b hab hb).1.1
  have hC : CmpLays Try.prog g cb enc k cf blk off d.size w := fun m os dk hdk x y => by
    obtain ⟨n0, os0, rfl⟩ := S
    rw [sortWorldK_on enc k w0 blk off n0 m d dk os0 os R.hblk hdk]
    exact hcmp _ _ dk (by omega) x y
  have h := AnyQ.insertionSortCmpFunc insLays k aE zE enc R.hk R.h1 cf g cb blk off cap a b d w eg hC (S.holds R.hblk R.hH hs) (S.lt R.hblk) hab hb hsz
  refine Calls.mono h ?_
  rintro e w' ⟨rfl, n, os, rfl⟩
  rw [hlt]
  exact ⟨rfl, S.on R.hblk n _ os hs'⟩
/-- A stable sort of a row of boards by a comparison. -/
theorem sortRow_any {α : Type} [Inhabited α] (k : Nat) (aE : ∀ w, (isAgg 45).run Try.prog w = .ok true w) (zE : ∀ w, (Go.sizeOf 45).run Try.prog w = .ok k w) (enc : α → List Value) (key idx : α → Nat) (cf : α → α → Int) (hcf : ∀ x y, ltK key x y = decide (cf x y < 0)) (g : Nat) (cb : Array Value) (blk off cap n : Nat) (d0 : Array α) (w0 : World)
    (eg : ∀ args w, (callFunc g args).run Try.prog w = .ok (.enter g args) w) (hcmp : CmpLays Try.prog g cb enc k cf blk off d0.size w0) (R : RowK enc k w0 blk off d0) (hs : d0.size = n) (hsz : n < 1099511627776) (hidx : ∀ t s, t < s → s < n → idx d0[t]! < idx d0[s]!) :
    Calls Try.prog 73 #[.slice (some ⟨blk, off, none⟩) n cap, .func (.func g) #[] cb] w0 fun e w' => e = .returned (.tuple #[]) ∧ ∃ d', PermIn 0 n d0 d' ∧ SortedIn (ltX key idx) 0 n d' ∧ SWK enc k w0 blk off d' w' := by
  refine sortStable_of k enc key idx g cb blk off cap n w0 (fun d w h1 h2 h3 => ?_) d0 w0 hs (SWK.start R.hH) hidx
  refine stable_of k enc key idx g cb blk off cap n w0 (fun a b d w h1 h2 h3 h4 => ?_) (fun a m b d w h1 h2 h3 h4 h5 h6 => ?_) d w h1 h2 hsz h3
  · have := insertion_w k aE zE enc key cf hcf g cb blk off cap a b d0 d w0 w eg hcmp R (by omega) h2 h3 (by omega) (by omega)
    rw [h1] at this
    exact this
  · have := symMerge_any k zE enc key idx cf hcf g cb blk off cap d0 w0 eg hcmp R (b - a) a m b d w (Nat.le_refl _) (by omega) h2 h3 h4 (by omega) (by omega) h6
    rw [h1] at this
    exact this
end Go.Proofs.Ythlbplmghjaeoae

/- Listed boards by the program: their traits, and what the calls leave behind. -/
namespace Go.Proofs.Ythlbplmghjaeoae
open Go.RowKit

set_option maxRecDepth 100000 in
set_option maxHeartbeats 1600000 in
theorem lbMinesA_any (x : LB) (w : World) :
    Calls Try.prog 31 #[.agg (encB x).toArray] w fun e w' => e = .returned (.int .i64 (x.mns : Nat)) ∧ ∃ o, w' = w.alloc o := by
  have h0 := encB_get x 0 (by decide)
  have h1 := encB_get x 1 (by decide)
  have h2 := encB_get x 2 (by decide)
  have h3 := encB_get x 3 (by decide)
  have h4 := encB_get x 4 (by decide)
  have h5 := encB_get x 5 (by decide)
  have h6 := encB_get x 6 (by decide)
  have h7 := encB_get x 7 (by decide)
  have h8 := encB_get x 8 (by decide)
  have h9 := encB_get x 9 (by decide)
  have h10 := encB_get x 10 (by decide)
  have h11 := encB_get x 11 (by decide)
  go_enter Try.func31, Try.ntmps31
  go_wp2_with fail
  rw [sgA_eq]
  have HA : ∀ i : Nat, i < 12 → (sgA x)[i]? = some (.int .u8 ((x.at i).toNat : Int)) := sgA_get x
  generalize sgA x = arr at *
  have hw1 : Hid (∃ o, w.alloc (.cells (encB x).toArray 45) = w.alloc o) := ⟨_, rfl⟩
  have HB : ∀ i : Nat, i < 24 → (w.alloc (.cells (encB x).toArray 45)).cell? ⟨w.heap.size, i, none⟩ = some (.int .u8 ((x.at i).toNat : Int)) := boxB_cell x w _
  generalize w.alloc (.cells (encB x).toArray 45) = w1 at *
  clear h0 h1 h2 h3 h4 h5 h6 h7 h8 h9 h10 h11
  have HAh := Lib.hid HA
  have HBh := Lib.hid HB
  clear HA HB
  go_loop [3, 8] (fun cnt i => ∃ k : Nat, k ≤ 12 ∧ i = .int .i64 k ∧ cnt = .int .i64 ((x.mnK k : Nat) : Int)) (fun _ i => 12 - (intOf i).toNat)
  case atStart => exact ⟨0, Nat.zero_le _, rfl, rfl⟩
  case round =>
    obtain ⟨k, hk, rfl, rfl⟩ := hrel
    by_cases hlt : k < 12
    · have ha := idx12 arr k _ hlt (HAh.out k hlt)
      have hle := x.mnK_le k
      have HS : Hid (x.mnK (k + 1) = x.mnK k + if (((x.at k).toNat : Int) == 42) = true then 1 else 0) := rfl
      cases d : (((x.at k).toNat : Int) == 42) with
      | true =>
        rw [d] at HS
        go_wp2_with fail
        go_round
        case rel => exact ⟨k + 1, by omega, by go_num, by rw [HS.out, if_pos rfl]; go_num⟩
        case measure => simp [intOf]; omega
      | false =>
        rw [d] at HS
        go_wp2_with fail
        go_round
        case rel => exact ⟨k + 1, by omega, by go_num, by rw [HS.out, if_neg (by decide)]; rfl⟩
        case measure => simp [intOf]; omega
    · obtain rfl : k = 12 := by omega
      go_wp2_with fail
      go_ret
      exact ⟨rfl, hw1.out⟩

open Go.Sort Go.Lib Go.Shelf
set_option maxRecDepth 100000 in
set_option maxHeartbeats 400000 in
theorem sortCl_k (k : Nat) (zE : ∀ w, (Go.sizeOf 45).run Try.prog w = .ok k w) (hkk : ∀ z : LB, (encB z).length = k) (x y : LB) (p F : Nat) (key : LB → Nat) (hk : ∀ z, key z ≤ 100000) (eg : ∀ args w, (callFunc F args).run Try.prog w = .ok (.enter F args) w)
    (hF : ∀ z w, Calls Try.prog F #[.agg (encB z).toArray] w fun e w' => e = .returned (.int .i64 (key z : Nat)) ∧ ∃ o, w' = w.alloc o) (w : World) (hc : w.cell? ⟨p, 0, none⟩ = some (.func (.func F) #[] #[])) :
    Calls Try.prog 74 #[.agg (encB x).toArray, .agg (encB y).toArray, .pointer (some ⟨p, 0, none⟩)] w fun e w' => e = .returned (.int .i64 ((key x : Int) - (key y : Int))) ∧ ∃ q os', w' = grow (w.drewN q) os' := by
  have mixed : Try.prog.follows .mixedOrders = true := by kernel_rfl
  have hkx := hk x
  have hky := hk y
  have hFg : ∀ z w, Calls Try.prog F #[.agg (encB z).toArray] w fun e w' => e = .returned (.int .i64 (key z : Nat)) ∧ ∃ q os', w' = grow (w.drewN q) os' := fun z w => (hF z w).mono fun e w' ⟨h1, o, h2⟩ => ⟨h1, 0, #[o], by rw [h2, alloc_eq_grow]; rfl⟩
  have HF := Lib.hid hFg
  have HC := Lib.hid hc
  have HKK := Lib.hid hkk
  clear hc hF hFg hk hkk
  go_enter Try.func74, Try.ntmps74
  go_wp2_with fail
  have hs1 : (w.alloc (.cells (encB x).toArray 45)).heap.size = w.heap.size + 1 := by simp
  have hlp : p < w.heap.size := by have := World.block_lt_of_cell? _ _ HC.out; simpa using this
  have hX0 : (w.alloc (.cells (encB x).toArray 45)).heap[w.heap.size]? = some (.cells (encB x).toArray 45 (0, 0)) := heap_alloc_new w _
  have hX : ((w.alloc (.cells (encB x).toArray 45)).alloc (.cells (encB y).toArray 45)).heap[w.heap.size]? = some (.cells (encB x).toArray 45 (0, 0)) := by
    rw [Below.heap_alloc _ _ _ (by rw [hs1]; omega)]; exact hX0
  have hY : ((w.alloc (.cells (encB x).toArray 45)).alloc (.cells (encB y).toArray 45)).heap[w.heap.size + 1]? = some (.cells (encB y).toArray 45 (0, 0)) := by
    have := heap_alloc_new (w.alloc (.cells (encB x).toArray 45)) (.cells (encB y).toArray 45)
    rw [hs1] at this
    exact this
  have hP : ((w.alloc (.cells (encB x).toArray 45)).alloc (.cells (encB y).toArray 45)).cell? ⟨p, 0, none⟩ = some (.func (.func F) #[] #[]) := by
    rw [← HC.out]
    refine World.cell?_of_block ?_
    rw [Below.heap_alloc _ _ _ (by rw [hs1]; show p < _; omega), Below.heap_alloc _ _ _ (show p < _ from hlp)]
  have hG : (w.alloc (.cells (encB x).toArray 45)).alloc (.cells (encB y).toArray 45) = grow w #[.cells (encB x).toArray 45 (0, 0), .cells (encB y).toArray 45 (0, 0)] := by
    rw [alloc_eq_grow, alloc_eq_grow, grow_grow]; rfl
  have HG := Lib.hid hG
  clear hX0 hG hs1
  generalize (w.alloc (.cells (encB x).toArray 45)).alloc (.cells (encB y).toArray 45) = w2 at *
  have hbx := block_lt hX
  have hby := block_lt hY
  have hbp : p < w2.heap.size := by omega
  have lx : ∀ n os, Sem.run Try.prog (loadCellsFrom ⟨w.heap.size, 0, none⟩ 0 k #[]) (grow (w2.drewN n) os) = .ok (encB x).toArray (grow (w2.drewN n) os) := fun n os =>
    run_loadCellsFrom_list _ _ _ _ k (HKK.out x) fun j v hv => by
      have h := cell_grown (w := w2) (a := ⟨w.heap.size, 0 + j, none⟩) (by exact hbx) (range24 hX j v hv) n os
      rw [show (Addr.add _ j : Addr) = _ from WideShapes.add_plain _ _ _]; exact h
  have ly : ∀ n os, Sem.run Try.prog (loadCellsFrom ⟨w.heap.size + 1, 0, none⟩ 0 k #[]) (grow (w2.drewN n) os) = .ok (encB y).toArray (grow (w2.drewN n) os) := fun n os =>
    run_loadCellsFrom_list _ _ _ _ k (HKK.out y) fun j v hv => by
      have h := cell_grown (w := w2) (a := ⟨w.heap.size + 1, 0 + j, none⟩) (by exact hby) (range24 hY j v hv) n os
      rw [show (Addr.add _ j : Addr) = _ from WideShapes.add_plain _ _ _]; exact h
  have lp : ∀ n os, (grow (w2.drewN n) os).cell? ⟨p, 0, none⟩ = some (.func (.func F) #[] #[]) := fun n os => cell_grown (by exact hbp) hP n os
  clear hX hY hP HC
  go_quiet_grown (first | (go_at_fn F; refine Calls.grown_of (HF.out _ _)))
  clear lx ly lp
  go_wp2_with fail
  go_ret
  have hwr : IntKind.i64.wrap ((key x : Int) - (key y : Int)) = (key x : Int) - (key y : Int) := IntWalk.i64_in _ ⟨by omega, by omega⟩
  refine ⟨congrArg (fun z => Ending.returned (Value.int .i64 z)) hwr, nq, #[.cells (encB x).toArray 45 (0, 0), .cells (encB y).toArray 45 (0, 0)] ++ osq, ?_⟩
  rw [HG.out]
  show grow (grow (w.drewN nq) _) osq = _
  rw [grow_grow]
end Go.Proofs.Ythlbplmghjaeoae
