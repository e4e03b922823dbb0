/- GC, GD, laid as one text. -/
import Derived.Test.YthlbplmghjaeoaeGA
import Derived.Test.YthlbplmghjaeoaeGB
import Derived.Outline

/- Listed boards, sorted: the row ahead of a sort and behind it. -/
namespace Go.Proofs.Ythlbplmghjaeoae
open Go.RowKit Go.Sort Go.Lib Go.Shelf

/-- Boards with their places. -/
def encP (p : LB × Nat) : List Value := encB p.1
theorem encP_len (p : LB × Nat) : (encP p).length = 24 := encB_len p.1
theorem own_holds {w : World} {g : Nat} {d : Array (LB × Nat)} (hb : ∃ cur t, w.heap[g]? = some (.cells cur t (0, 0))) (h : ∀ j (hj : j < d.size), w.rangeAt g (j * 24) (encB d[j].1)) : HoldsK encP 24 w g 0 d := by
  intro t ht
  rw [size_flatK] at ht
  obtain ⟨cur, ty, hh⟩ := hb
  have hj : t / 24 < d.size := by omega
  have hi : t % 24 < 24 := Nat.mod_lt _ (by decide)
  have e : t / 24 * 24 + t % 24 = t := by omega
  refine ⟨?_, frozen_of_block hh _⟩
  have hg := encB_get d[t / 24].1 (t % 24) hi
  have := h (t / 24) hj (t % 24) _ hg
  rw [e] at this
  rw [Nat.zero_add, this, get_flatK _ _ _ _ ht, getElem!_pos d (t / 24) hj]
  show _ = some (id (encB d[t / 24].1)[t % 24]!)
  rw [List.getElem!_eq_getElem?_getD, hg]; rfl
theorem sort_block {w w' : World} {g n : Nat} {cur : Array Value} {t : TypeId} {d : Array (LB × Nat)} (S : SWK encP 24 w g 0 d w') (hh : w.heap[g]? = some (.cells cur t (0, 0))) (hn : d.size = n) (hc : n * 24 ≤ cur.size) :
    ∃ cur', w'.heap[g]? = some (.cells cur' t (0, 0)) ∧ cur'.size = cur.size ∧ cur'.toList.take (n * 24) = flatB (d.toList.map (·.1)) := by
  obtain ⟨m, os, rfl⟩ := S
  have hl := block_lt hh
  refine ⟨putCells id 0 (flatK encP 24 d) cur, ?_, by simp [putCells], ?_⟩
  · show ((mapBlock (Sort.ahead w m) g (putCells id 0 (flatK encP 24 d))).heap ++ os)[g]? = _
    have h1 : (mapBlock (Sort.ahead w m) g (putCells id 0 (flatK encP 24 d))).heap = w.heap.modify g (onCells (putCells id 0 (flatK encP 24 d))) := rfl
    rw [h1, Array.getElem?_append_left (by simpa using hl), Array.getElem?_modify, if_pos rfl, hh]; rfl
  · have hdl : (d.toList.map (·.1)).length = n := by simp [hn]
    refine List.ext_getElem? fun i => ?_
    by_cases hi : i < n * 24
    · have hj : i / 24 < n := by omega
      have hr : i % 24 < 24 := Nat.mod_lt _ (by decide)
      have e : i / 24 * 24 + i % 24 = i := by omega
      have hf := flatB_get (d.toList.map (·.1)) (i / 24) (i % 24) (by rw [hdl]; exact hj) hr
      rw [e] at hf
      rw [hf, List.getElem?_take, if_pos hi, Array.getElem?_toList, putCells, Array.getElem?_mapIdx, getElem?_pos cur i (by omega)]
      simp only [Option.map_some, Nat.zero_le, true_and, Nat.zero_add, size_flatK, hn, hi, if_true, Nat.sub_zero]
      rw [get_flatK _ _ _ _ (by rw [hn]; exact hi), getElem!_pos d (i / 24) (by omega)]
      have hg := encB_get d[i / 24].1 (i % 24) hr
      have e2 : (d.toList.map (·.1))[i / 24]'(by rw [hdl]; exact hj) = d[i / 24].1 := by simp
      rw [e2, hg]
      show some (id (encB d[i / 24].1)[i % 24]!) = _
      rw [List.getElem!_eq_getElem?_getD, hg]; rfl
    · rw [List.getElem?_eq_none (by simp; omega), List.getElem?_eq_none (by rw [flatB_length, hdl]; omega)]
theorem sort_below {w w' : World} {g B : Nat} {d : Array (LB × Nat)} (S : SWK encP 24 w g 0 d w') (hB : B ≤ g) (hl : g < w.heap.size) : RowKit.Below B w w' := by
  obtain ⟨m, os, rfl⟩ := S
  have h1 : (sortWorldK encP 24 w g 0 m d os).heap = w.heap.modify g (onCells (putCells id 0 (flatK encP 24 d))) ++ os := rfl
  refine ⟨rfl, rfl, rfl, by rw [h1]; simp, fun k hk => ?_⟩
  rw [h1, Array.getElem?_append_left (by simp; omega), Array.getElem?_modify, if_neg (by omega)]
end Go.Proofs.Ythlbplmghjaeoae

/- All boards of a size, sorted by a trait. -/
namespace Go.Proofs.Ythlbplmghjaeoae
open Go.RowKit Go.Sort Go.Lib Go.Shelf

theorem sort_other {w : World} {g p : Nat} {d : Array (LB × Nat)} {m : Nat} {os : Array Obj} (hne : g ≠ p) (hp : p < w.heap.size) : (sortWorldK encP 24 w g 0 m d os).heap[p]? = w.heap[p]? := by
  have h1 : (sortWorldK encP 24 w g 0 m d os).heap = w.heap.modify g (onCells (putCells id 0 (flatK encP 24 d))) ++ os := rfl
  rw [h1, Array.getElem?_append_left (by simpa using hp), Array.getElem?_modify, if_neg hne]
theorem lbAgg (w : World) : (isAgg 45).run Try.prog w = .ok true w := Try.isAgg45 w
theorem lbSize (w : World) : (Go.sizeOf 45).run Try.prog w = .ok 24 w := Try.sizeOf45 w
set_option maxRecDepth 100000 in
set_option maxHeartbeats 400000 in
theorem sortBoards_of (W H : Int) (L : List LB) (hL0 : 0 < L.length) (hL : L.length ≤ 4096) (hlb : ∀ w, Calls Try.prog 66 #[.int .i64 W, .int .i64 H] w fun e w' => ∃ v, e = .returned v ∧ OwnsB w' w.heap.size v L ∧ RowKit.Below w.heap.size w w')
    (F : Nat) (key : LB → Nat) (hk : ∀ z, key z ≤ 100000) (eg : ∀ args w, (callFunc F args).run Try.prog w = .ok (.enter F args) w)
    (hF : ∀ z w, Calls Try.prog F #[.agg (encB z).toArray] w fun e w' => e = .returned (.int .i64 (key z : Nat)) ∧ ∃ o, w' = w.alloc o) (w : World) :
    Calls Try.prog 59 #[.int .i64 W, .int .i64 H, .func (.func F) #[] #[]] w fun e w' => ∃ v, e = .returned v ∧ ∃ d : Array (LB × Nat), d.size = L.length ∧ OwnsB w' w.heap.size v (d.toList.map (·.1)) ∧ PermIn 0 L.length L.zipIdx.toArray d ∧ SortedIn (ltX (fun p : LB × Nat => key p.1) (fun p => p.2)) 0 L.length d ∧ RowKit.Below w.heap.size w w' := by
  have HLB := Lib.hid hlb
  have HF := Lib.hid hF
  have HKK := Lib.hid hk
  clear hlb hF hk
  go_enter Try.func59, Try.ntmps59
  go_wp2_with fail
  have hP : (w.alloc (.cells #[.func (.func F) #[] #[]] 83)).heap[w.heap.size]? = some (.cells #[.func (.func F) #[] #[]] 83 (0, 0)) := heap_alloc_new w _
  have hb1 : RowKit.Below w.heap.size w (w.alloc (.cells #[.func (.func F) #[] #[]] 83)) := (RowKit.Below.refl _ _).alloc (Nat.le_refl _) _
  have hs1 : w.heap.size < (w.alloc (.cells #[.func (.func F) #[] #[]] 83)).heap.size := by simp
  generalize w.alloc (.cells #[.func (.func F) #[] #[]] 83) = w1 at *
  refine (HLB.out _).mono ?_
  rintro e w2 ⟨v, rfl, hO, hb2⟩
  have hcm : ∀ a n c, v = .slice a n c → c ≤ maxLen := fun a n c hv => by
    obtain ⟨_, ⟨h, _⟩ | ⟨g', cap', cur', h, _, _, _, hm, _⟩⟩ := hO
    · rw [hv] at h; simp at h; omega
    · rw [hv] at h; simp at h; omega
  obtain ⟨g, cap, cur, rfl, hg1, hg2, hgb, hgc, hgs, hgr⟩ := hO.open hL0
  have hcm := hcm _ _ _ rfl
  have hd0 : L.zipIdx.toArray.size = L.length := by simp
  have hget : ∀ j (hj : j < L.length), L.zipIdx.toArray[j]! = (L[j], j) := fun j hj => by
    rw [getElem!_pos _ j (by rw [hd0]; exact hj)]
    simp
  have hR : RowK encP 24 w2 g 0 L.zipIdx.toArray := ⟨encP_len, fun x => encB_one x.1, own_holds ⟨cur, _, hgb⟩ (fun j hj => by
    have hj' : j < L.length := by rwa [hd0] at hj
    have h := hgr j hj'
    have e := hget j hj'
    rw [getElem!_pos _ j hj] at e
    rw [e]; exact h), hg2⟩
  have hP2 : w2.heap[w.heap.size]? = some (.cells #[.func (.func F) #[] #[]] 83 (0, 0)) := by rw [hb2.block _ hs1]; exact hP
  have hcmp : CmpLays Try.prog 74 #[.pointer (some ⟨w.heap.size, 0, none⟩)] encP 24 (fun x y : LB × Nat => (key x.1 : Int) - (key y.1 : Int)) g 0 L.zipIdx.toArray.size w2 := fun m os dk hdk x y => by
    refine sortCl_k 24 lbSize encB_len x.1 y.1 w.heap.size F key HKK.out eg HF.out _ ?_
    rw [cell_of_block ((sort_other (by omega) (block_lt hP2)).trans hP2)]; rfl
  have eg71 : ∀ args w, (callFunc 74 args).run Try.prog w = .ok (.enter 74 args) w := enters_of Try.func74 (by kernel_rfl) rfl
  have hsort := sortRow_any 24 lbAgg lbSize encP (fun p : LB × Nat => key p.1) (fun p => p.2) (fun x y => (key x.1 : Int) - (key y.1 : Int)) (fun x y => by unfold ltK; rw [decide_eq_decide]; show key x.1 < key y.1 ↔ (key x.1 : Int) - (key y.1 : Int) < 0; omega) 74 #[.pointer (some ⟨w.heap.size, 0, none⟩)] g 0 cap L.length L.zipIdx.toArray w2 eg71 hcmp hR hd0 (by omega) (fun t s h1 h2 => by rw [hget t (by omega), hget s h2]; exact h1)
  have HSO := Lib.hid hsort
  have HGB := Lib.hid hgb
  have hb02 := hb1.trans (hb2.mono hb1.size)
  clear hsort hcmp hR hP2 hP hgr hget hO hgb eg71
  go_wp2_with fail
  refine HSO.out.mono ?_
  rintro e w3 ⟨rfl, d, hp, hso, hS⟩
  have hdz : d.size = L.length := by rw [hp.1, hd0]
  obtain ⟨cur', k1, k2, k3⟩ := sort_block hS HGB.out hdz (by rw [hgs]; exact Nat.mul_le_mul_right _ hgc)
  have hO3 : OwnsB w3 w.heap.size (.slice (some ⟨g, 0, none⟩) L.length cap) (d.toList.map (·.1)) := by
    have hl : (d.toList.map (·.1)).length = L.length := by simp [hdz]
    refine ⟨by rw [flatB_length], .inr ⟨g, cap, cur', by rw [hl], by omega, k1, by rw [hl]; exact hgc, hcm, by rw [k2]; exact hgs, by rw [hl]; exact k3⟩⟩
  have hb3 : RowKit.Below w.heap.size w w3 := hb02.trans (sort_below hS (by omega) hg2)
  have HO3 := Lib.hid hO3
  have HPS := Lib.hid hp
  have HSS := Lib.hid hso
  have HDZ := Lib.hid hdz
  clear hO3 hp hso hdz k1 k2 k3 hS
  go_wp2_with fail
  go_ret
  exact ⟨_, rfl, d, HDZ.out, HO3.out, HPS.out, HSS.out, hb3⟩
end Go.Proofs.Ythlbplmghjaeoae
