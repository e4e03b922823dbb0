/- Listed boards by the program: the board of a grid. -/
import Derived.Test.YthlbplmghjaeoaaDoorGKD
import Derived.Outline
namespace Go.Proofs.YthlbplmghjaeoaaDoor
open Go.RowKit

/-- A board in a box. -/
def BoxB (w : World) (b : Nat) (y : LB) : Prop := w.rangeAt b 0 (encB y) ∧ w.there b 0 24
theorem BoxB.lt {w : World} {b : Nat} {y : LB} (h : BoxB w b y) : b < w.heap.size := by
  have := World.block_lt_of_cell? _ _ (h.1 0 _ (encB_get y 0 (by decide)))
  simpa using this
theorem BoxB.heap {w w' : World} {b : Nat} {y : LB} (h : BoxB w b y) (he : w'.heap[b]? = w.heap[b]?) : BoxB w' b y :=
  ⟨range_heap h.1 he, fun j hj => by
    rw [World.cell?_of_block (a := ⟨b, 0 + j, none⟩) he, World.frozen?_of_block (a := ⟨b, 0 + j, none⟩) he]; exact h.2 j hj⟩
theorem BoxB.later {w w' : World} {b : Nat} {y : LB} (h : BoxB w b y) (hb : Below w.heap.size w w') : BoxB w' b y := h.heap (hb.block b h.lt)
theorem BoxB.of {w : World} {b : Nat} {y : LB} {t : TypeId} (h : w.heap[b]? = some (.cells (encB y).toArray t (0, 0))) : BoxB w b y := ⟨range24 h, there24 h (by rw [encB_size])⟩
theorem BoxB.set {w : World} {b : Nat} {y : LB} (h : BoxB w b y) (z : LB) : BoxB (w.setCells b 0 (encB z)) b z :=
  ⟨World.rangeAt_setCells_same w b 0 (encB z) (by rw [encB_len]; exact h.2), World.there_setCells h.2 b 0 (encB z)⟩
theorem heap_setCells {g b : Nat} (hne : b ≠ g) : ∀ (vs : List Value) (o : Nat) (w : World), (w.setCells g o vs).heap[b]? = w.heap[b]?
  | [], _, _ => rfl
  | v :: r, o, w => by rw [World.setCells, heap_setCells hne r, away_setK hne]

set_option maxRecDepth 100000 in
set_option maxHeartbeats 3200000 in
theorem listedOf_any (W H : Nat) (a : Option Addr) (cells : List UInt8) (cap : Nat) (w : World) (hat : At w a (byts cells)) (hn : cells.length = W * H) (hW : 1 ≤ W ∧ W ≤ 8) (hH : 1 ≤ H ∧ H ≤ 8) (h12 : W * H ≤ 12) :
    Calls Tryd.prog 37 #[.agg #[.int .i64 W, .int .i64 H, .slice a cells.length cap, .bool false]] w fun e w' => e = .returned (.agg (encB (preB W (W * H) cells)).toArray) ∧ Below w.heap.size w w' := by
  generalize hcl : cells.length = n at *
  rw [← hn] at h12 ⊢
  have HWH := Lib.hid hn
  have HCL := Lib.hid hcl
  clear hn hcl
  go_enter Tryd.func37, Tryd.ntmps37
  have hbW : Below w.heap.size w (((w.alloc (.cells #[.int .i64 W, .int .i64 H, .slice a n cap, .bool false] 58)).alloc (.cells #[.int .u8 0, .int .u8 0, .int .u8 0, .int .u8 0, .int .u8 0, .int .u8 0, .int .u8 0, .int .u8 0, .int .u8 0, .int .u8 0, .int .u8 0, .int .u8 0, .int .u8 0, .int .u8 0, .int .u8 0, .int .u8 0, .int .u8 0, .int .u8 0, .int .u8 0, .int .u8 0, .int .u8 0, .int .u8 0, .int .u8 0, .int .u8 0] 65)).alloc (.cells #[.int .u8 0, .int .u8 0, .int .u8 0, .int .u8 0, .int .u8 0, .int .u8 0, .int .u8 0, .int .u8 0, .int .u8 0, .int .u8 0, .int .u8 0, .int .u8 0, .int .u8 0, .int .u8 0, .int .u8 0, .int .u8 0, .int .u8 0, .int .u8 0, .int .u8 0, .int .u8 0, .int .u8 0, .int .u8 0, .int .u8 0, .int .u8 0] 65)) := (((Below.refl _ _).alloc (Nat.le_refl _) _).alloc (by simp) _).alloc (by simp; omega) _
  have hs1 : (w.alloc (.cells #[.int .i64 W, .int .i64 H, .slice a n cap, .bool false] 58)).heap.size = w.heap.size + 1 := by simp
  have hs2 : ((w.alloc (.cells #[.int .i64 W, .int .i64 H, .slice a n cap, .bool false] 58)).alloc (.cells #[.int .u8 0, .int .u8 0, .int .u8 0, .int .u8 0, .int .u8 0, .int .u8 0, .int .u8 0, .int .u8 0, .int .u8 0, .int .u8 0, .int .u8 0, .int .u8 0, .int .u8 0, .int .u8 0, .int .u8 0, .int .u8 0, .int .u8 0, .int .u8 0, .int .u8 0, .int .u8 0, .int .u8 0, .int .u8 0, .int .u8 0, .int .u8 0] 65)).heap.size = w.heap.size + 2 := by simp
  have hG1 : Hid ((((w.alloc (.cells #[.int .i64 W, .int .i64 H, .slice a n cap, .bool false] 58)).alloc (.cells #[.int .u8 0, .int .u8 0, .int .u8 0, .int .u8 0, .int .u8 0, .int .u8 0, .int .u8 0, .int .u8 0, .int .u8 0, .int .u8 0, .int .u8 0, .int .u8 0, .int .u8 0, .int .u8 0, .int .u8 0, .int .u8 0, .int .u8 0, .int .u8 0, .int .u8 0, .int .u8 0, .int .u8 0, .int .u8 0, .int .u8 0, .int .u8 0] 65)).alloc (.cells #[.int .u8 0, .int .u8 0, .int .u8 0, .int .u8 0, .int .u8 0, .int .u8 0, .int .u8 0, .int .u8 0, .int .u8 0, .int .u8 0, .int .u8 0, .int .u8 0, .int .u8 0, .int .u8 0, .int .u8 0, .int .u8 0, .int .u8 0, .int .u8 0, .int .u8 0, .int .u8 0, .int .u8 0, .int .u8 0, .int .u8 0, .int .u8 0] 65)).heap[w.heap.size]? = some (.cells #[.int .i64 W, .int .i64 H, .slice a n cap, .bool false] 58 (0, 0))) := by
    rw [Hid, Below.heap_alloc _ _ _ (by rw [hs2]; omega), Below.heap_alloc _ _ _ (by rw [hs1]; omega)]; exact heap_alloc_new w _
  have hR1 : Hid ((((w.alloc (.cells #[.int .i64 W, .int .i64 H, .slice a n cap, .bool false] 58)).alloc (.cells #[.int .u8 0, .int .u8 0, .int .u8 0, .int .u8 0, .int .u8 0, .int .u8 0, .int .u8 0, .int .u8 0, .int .u8 0, .int .u8 0, .int .u8 0, .int .u8 0, .int .u8 0, .int .u8 0, .int .u8 0, .int .u8 0, .int .u8 0, .int .u8 0, .int .u8 0, .int .u8 0, .int .u8 0, .int .u8 0, .int .u8 0, .int .u8 0] 65)).alloc (.cells #[.int .u8 0, .int .u8 0, .int .u8 0, .int .u8 0, .int .u8 0, .int .u8 0, .int .u8 0, .int .u8 0, .int .u8 0, .int .u8 0, .int .u8 0, .int .u8 0, .int .u8 0, .int .u8 0, .int .u8 0, .int .u8 0, .int .u8 0, .int .u8 0, .int .u8 0, .int .u8 0, .int .u8 0, .int .u8 0, .int .u8 0, .int .u8 0] 65)).heap[w.heap.size + 1]? = some (.cells zer 65 (0, 0))) := by
    have h := heap_alloc_new (w.alloc (.cells #[.int .i64 W, .int .i64 H, .slice a n cap, .bool false] 58)) (.cells #[.int .u8 0, .int .u8 0, .int .u8 0, .int .u8 0, .int .u8 0, .int .u8 0, .int .u8 0, .int .u8 0, .int .u8 0, .int .u8 0, .int .u8 0, .int .u8 0, .int .u8 0, .int .u8 0, .int .u8 0, .int .u8 0, .int .u8 0, .int .u8 0, .int .u8 0, .int .u8 0, .int .u8 0, .int .u8 0, .int .u8 0, .int .u8 0] 65)
    rw [hs1] at h
    rw [Hid, Below.heap_alloc _ _ _ (by rw [hs2]; omega)]
    exact h
  have hB1 : Hid ((((w.alloc (.cells #[.int .i64 W, .int .i64 H, .slice a n cap, .bool false] 58)).alloc (.cells #[.int .u8 0, .int .u8 0, .int .u8 0, .int .u8 0, .int .u8 0, .int .u8 0, .int .u8 0, .int .u8 0, .int .u8 0, .int .u8 0, .int .u8 0, .int .u8 0, .int .u8 0, .int .u8 0, .int .u8 0, .int .u8 0, .int .u8 0, .int .u8 0, .int .u8 0, .int .u8 0, .int .u8 0, .int .u8 0, .int .u8 0, .int .u8 0] 65)).alloc (.cells #[.int .u8 0, .int .u8 0, .int .u8 0, .int .u8 0, .int .u8 0, .int .u8 0, .int .u8 0, .int .u8 0, .int .u8 0, .int .u8 0, .int .u8 0, .int .u8 0, .int .u8 0, .int .u8 0, .int .u8 0, .int .u8 0, .int .u8 0, .int .u8 0, .int .u8 0, .int .u8 0, .int .u8 0, .int .u8 0, .int .u8 0, .int .u8 0] 65)).heap[w.heap.size + 2]? = some (.cells (encB (preB W n (cells.take 0))).toArray 65 (0, 0))) := by
    have h := heap_alloc_new ((w.alloc (.cells #[.int .i64 W, .int .i64 H, .slice a n cap, .bool false] 58)).alloc (.cells #[.int .u8 0, .int .u8 0, .int .u8 0, .int .u8 0, .int .u8 0, .int .u8 0, .int .u8 0, .int .u8 0, .int .u8 0, .int .u8 0, .int .u8 0, .int .u8 0, .int .u8 0, .int .u8 0, .int .u8 0, .int .u8 0, .int .u8 0, .int .u8 0, .int .u8 0, .int .u8 0, .int .u8 0, .int .u8 0, .int .u8 0, .int .u8 0] 65)) (.cells #[.int .u8 0, .int .u8 0, .int .u8 0, .int .u8 0, .int .u8 0, .int .u8 0, .int .u8 0, .int .u8 0, .int .u8 0, .int .u8 0, .int .u8 0, .int .u8 0, .int .u8 0, .int .u8 0, .int .u8 0, .int .u8 0, .int .u8 0, .int .u8 0, .int .u8 0, .int .u8 0, .int .u8 0, .int .u8 0, .int .u8 0, .int .u8 0] 65)
    rw [hs2] at h
    rw [Hid, List.take_zero, pre_nil, defB]
    exact h
  clear hs1 hs2
  go_wp2_with fail
  generalize ((w.alloc (.cells #[.int .i64 W, .int .i64 H, .slice a n cap, .bool false] 58)).alloc (.cells #[.int .u8 0, .int .u8 0, .int .u8 0, .int .u8 0, .int .u8 0, .int .u8 0, .int .u8 0, .int .u8 0, .int .u8 0, .int .u8 0, .int .u8 0, .int .u8 0, .int .u8 0, .int .u8 0, .int .u8 0, .int .u8 0, .int .u8 0, .int .u8 0, .int .u8 0, .int .u8 0, .int .u8 0, .int .u8 0, .int .u8 0, .int .u8 0] 65)).alloc (.cells #[.int .u8 0, .int .u8 0, .int .u8 0, .int .u8 0, .int .u8 0, .int .u8 0, .int .u8 0, .int .u8 0, .int .u8 0, .int .u8 0, .int .u8 0, .int .u8 0, .int .u8 0, .int .u8 0, .int .u8 0, .int .u8 0, .int .u8 0, .int .u8 0, .int .u8 0, .int .u8 0, .int .u8 0, .int .u8 0, .int .u8 0, .int .u8 0] 65) = w1 at *
  obtain ⟨G, hGG⟩ : ∃ G, w.heap.size = G := ⟨_, rfl⟩
  obtain ⟨RX, hRX⟩ : ∃ RX, w.heap.size + 1 = RX := ⟨_, rfl⟩
  obtain ⟨BX, hBX⟩ : ∃ BX, w.heap.size + 2 = BX := ⟨_, rfl⟩
  rw [hBX] at hB1 ⊢
  rw [hRX] at hR1 ⊢
  rw [hGG] at hG1 ⊢
  have hGB : G < RX ∧ RX < BX := by omega
  have hB1 := Lib.hid (BoxB.of hB1.out)
  go_loopw [9] (fun i wr => ∃ k : Nat, k ≤ n ∧ i = .int .i64 k ∧ Hid (wr.heap[G]? = some (.cells #[.int .i64 W, .int .i64 H, .slice a n cap, .bool false] 58 (0, 0))) ∧ Hid (BoxB wr BX (preB W n (cells.take k))) ∧ Hid (wr.heap[RX]? = some (.cells zer 65 (0, 0))) ∧ Below w.heap.size w wr) (fun i _ => n - (intOf i).toNat)
  case atStart => exact ⟨0, Nat.zero_le _, rfl, hG1, hB1, hR1, hbW⟩
  case round =>
    clear hG1 hB1 hbW hR1
    obtain ⟨k, hk, rfl, hG1, hB1, hR1, hbW⟩ := hrel
    by_cases hlt : k < n
    · have hkl : k < cells.length := by rw [HCL.out]; exact hlt
      have hat1 : At wr a (byts cells) := hat.later rfl hbW
      obtain ⟨ab, ao, hab, hcell⟩ := byts_at hat1 k hkl
      subst hab
      have HPR : Hid ((preB W n (cells.take k)).wth k cells[k] (nearM W n k) = preB W n (cells.take (k + 1))) := by
        rw [List.take_succ_eq_append_getElem hkl]
        exact Subtype.ext (with_pre W n k (cells.take k) cells[k] (by rw [List.length_take]; omega) (by omega))
      generalize cells[k] = sg at *
      clear hkl
      generalize preB W n (cells.take k) = y at *
      have hk12 : k < 12 := by omega
      have hN12 : ∀ o ∈ nearM W n k, o < 12 := fun o ho => by have := nearM_lt W n k o ho; omega
      have hNl : (nearM W n k).length ≤ 12 := Nat.le_trans (nearM_le W n k) h12
      have HNB := Lib.hid (fun w => neighbours_any W H (some ⟨ab, ao, none⟩) n cap k w hW.1 (by omega) (by omega))
      have hG2 := hG1.out
      obtain ⟨C3, hC3⟩ : ∃ C3 : World → Prop, C3 = fun w' => w'.cell? ⟨G, 0, none⟩ = some (.int .i64 W) ∧ w'.cell? ⟨G, 1, none⟩ = some (.int .i64 H) ∧ w'.cell? ⟨G, 2, none⟩ = some (.slice (some ⟨ab, ao, none⟩) n cap) ∧ w'.cell? ⟨G, 3, none⟩ = some (.bool false) := ⟨_, rfl⟩
      have hS5 : C3 wr.drew := by
        rw [hC3]
        exact ⟨cell_of_block hG2 0, cell_of_block hG2 1, cell_of_block hG2 2, cell_of_block hG2 3⟩
      have HC3 : Hid (∀ w' w'' : World, C3 w' → Below w'.heap.size w' w'' → C3 w'') := by
        rw [hC3]
        rintro w' w'' ⟨q1, q2, q3, q4⟩ hb
        exact ⟨(hb.cell (p := ⟨G, 0, none⟩) (World.block_lt_of_cell? _ _ q1)).trans q1, (hb.cell (p := ⟨G, 1, none⟩) (World.block_lt_of_cell? _ _ q2)).trans q2, (hb.cell (p := ⟨G, 2, none⟩) (World.block_lt_of_cell? _ _ q3)).trans q3, (hb.cell (p := ⟨G, 3, none⟩) (World.block_lt_of_cell? _ _ q4)).trans q4⟩
      have hB5 : BoxB wr.drew BX y := hB1.out
      go_wp2_with fail
      refine wp_region_held_drew (S := C3) (by kernel_rfl) hS5 (fun hH => ?_)
      refine wpAnyH_take (i := 1) (v := _) rfl (by kernel_rfl) (by kernel_rfl) (by kernel_rfl) (fun _ _ _ h => h) (Or.inl ⟨by rfl, fun _ _ => rfl⟩) hH ?_
      simp only [Act.put, List.setIfInBounds_toArray, List.set_cons_zero, List.set_cons_succ]
      refine wpAnyH_take (i := 2) (v := _) rfl (by kernel_rfl) (by kernel_rfl) (by kernel_rfl) (fun _ _ _ h => h) (Or.inl ⟨by rfl, fun _ _ => rfl⟩) hH ?_
      simp only [Act.put, List.setIfInBounds_toArray, List.set_cons_zero, List.set_cons_succ]
      refine wpAnyH_take (i := 3) (v := .agg #[.int .i64 W, .int .i64 H, .slice (some ⟨ab, ao, none⟩) n cap, .bool false]) rfl (by kernel_rfl) (by kernel_rfl) (by kernel_rfl) (fun _ _ _ h => h) (Or.inl ⟨by rfl, fun w' hS => by rw [hC3] at hS; obtain ⟨q1, q2, q3, q4⟩ := hS; go_simp⟩) hH ?_
      simp only [Act.put, List.setIfInBounds_toArray, List.set_cons_zero, List.set_cons_succ]
      refine wpAnyH_take (i := 4) (v := _) rfl (by kernel_rfl) (by kernel_rfl) (by kernel_rfl) (fun _ _ _ h => h) (Or.inl ⟨by rfl, fun _ _ => rfl⟩) hH ?_
      simp only [Act.put, List.setIfInBounds_toArray, List.set_cons_zero, List.set_cons_succ]
      refine wpAnyH_ready (rs := [0, 5]) (by kernel_rfl) (by simp) ?_
      refine AllReadyH.cons rfl (fun K hK => ?_) (AllReadyH.cons rfl (fun K hK => ?_) AllReadyH.nil)
      · rw [if_pos (by rfl)]
        refine wp_load_mid 65 _ rfl BX 0 rfl (encB y) _ hB5.1 Tryd.underlying65 rfl (inf67.trans (by rw [encB_len])) ?_
        refine hK.out _ _ hS5 (fun _ => ?_)
        clear hK K
        refine wpAnyH_ready (rs := [5]) (by kernel_rfl) (by simp) ?_
        refine AllReadyH.cons rfl (fun K hK => ?_) AllReadyH.nil
        go_simp
        refine (HNB.out _).mono ?_
        rintro e w6 ⟨an, capn, rfl, hon, hb6⟩
        go_wp2_with fail
        have hS6 : C3 w6 := HC3.out _ _ hS5 hb6
        have hN6 := hon.at
        have hB6 := hB5.later hb6
        refine hK.out _ _ hS6 (fun hH6 => ?_)
        clear hK K
        refine wpAnyH_ready (rs := [6]) (by kernel_rfl) (by simp) ?_
        refine AllReadyH.cons rfl (fun K hK => ?_) AllReadyH.nil
        go_simp
        refine (lbWith_any y k sg (nearM W n k) _ _ _ hk12 hN12 hNl hN6).mono ?_
        rintro e w7 ⟨rfl, hb7⟩
        go_wp2_with fail
        have hS7 : C3 w7 := HC3.out _ _ hS6 hb7
        refine hK.out _ _ hS7 (fun _ => ?_)
        clear hK K
        have hB7 := hB6.later hb7
        refine wpAnyH_ready (rs := [7]) (by kernel_rfl) (by simp) ?_
        refine AllReadyH.cons rfl (fun K hK => ?_) AllReadyH.nil
        rw [if_pos (by rfl)]
        refine wp_store_mid 65 _ _ rfl BX 0 (encB (y.wth k sg (nearM W n k))).toArray rfl rfl (by rw [encB_size]; exact hB7.2) (inf67.trans (by rw [encB_size])) (all_oneCell_toArray (encB_one _)) ?_
        have hB8 := hB7.set (y.wth k sg (nearM W n k))
        rw [HPR.out] at hB8
        rw [HPR.out]
        have hgr : ∀ b, b ≠ BX → b < wr.heap.size → (w7.setCells BX 0 (encB (preB W n (cells.take (k + 1))))).heap[b]? = wr.heap[b]? := fun b hb hlt => (heap_setCells hb _ 0 w7).trans ((hb7.block b (Nat.lt_of_lt_of_le hlt hb6.size)).trans (hb6.block b hlt))
        have hG8 : Hid ((w7.setCells BX 0 (encB (preB W n (cells.take (k + 1))))).heap[G]? = some (.cells #[.int .i64 W, .int .i64 H, .slice (some ⟨ab, ao, none⟩) n cap, .bool false] 58 (0, 0))) := (hgr G (by omega) (block_lt hG1.out)).trans hG1.out
        have hR8 : Hid ((w7.setCells BX 0 (encB (preB W n (cells.take (k + 1))))).heap[RX]? = some (.cells zer 65 (0, 0))) := (hgr RX (by omega) (block_lt hR1.out)).trans hR1.out
        have hb8 : Below w.heap.size w (w7.setCells BX 0 (encB (preB W n (cells.take (k + 1))))) := below_setCells _ 0 ((hbW.trans ((ofDrew hb6).mono hbW.size)).trans (hb7.mono (Nat.le_trans hbW.size hb6.size))) (by omega)
        have hS8 : C3 (w7.setCells BX 0 (encB (preB W n (cells.take (k + 1))))) := by
          rw [hC3]
          exact ⟨cell_of_block hG8.out 0, cell_of_block hG8.out 1, cell_of_block hG8.out 2, cell_of_block hG8.out 3⟩
        refine hK.out _ _ hS8 (fun _ => ?_)
        clear hK K
        refine wpAnyH_done (by kernel_rfl) ?_ _
        go_wp2_with fail
        go_roundw
        case rel => exact ⟨k + 1, by omega, by go_num, hG8, hB8, hR8, hb8⟩
        case measure => simp [intOf]; omega
      · go_simp
        refine (HNB.out _).mono ?_
        rintro e w6 ⟨an, capn, rfl, hon, hb6⟩
        go_wp2_with fail
        have hS6 : C3 w6 := HC3.out _ _ hS5 hb6
        have hN6 := hon.at
        have hB6 := hB5.later hb6
        refine hK.out _ _ hS6 (fun hH6 => ?_)
        clear hK K
        refine wpAnyH_ready (rs := [0]) (by kernel_rfl) (by simp) ?_
        refine AllReadyH.cons rfl (fun K hK => ?_) AllReadyH.nil
        rw [if_pos (by rfl)]
        refine wp_load_mid 65 _ rfl BX 0 rfl (encB y) _ hB6.1 Tryd.underlying65 rfl (inf67.trans (by rw [encB_len])) ?_
        refine hK.out _ _ hS6 (fun _ => ?_)
        clear hK K
        refine wpAnyH_ready (rs := [6]) (by kernel_rfl) (by simp) ?_
        refine AllReadyH.cons rfl (fun K hK => ?_) AllReadyH.nil
        go_simp
        refine (lbWith_any y k sg (nearM W n k) _ _ _ hk12 hN12 hNl hN6).mono ?_
        rintro e w7 ⟨rfl, hb7⟩
        go_wp2_with fail
        have hS7 : C3 w7 := HC3.out _ _ hS6 hb7
        refine hK.out _ _ hS7 (fun _ => ?_)
        clear hK K
        have hB7 := hB6.later hb7
        refine wpAnyH_ready (rs := [7]) (by kernel_rfl) (by simp) ?_
        refine AllReadyH.cons rfl (fun K hK => ?_) AllReadyH.nil
        rw [if_pos (by rfl)]
        refine wp_store_mid 65 _ _ rfl BX 0 (encB (y.wth k sg (nearM W n k))).toArray rfl rfl (by rw [encB_size]; exact hB7.2) (inf67.trans (by rw [encB_size])) (all_oneCell_toArray (encB_one _)) ?_
        have hB8 := hB7.set (y.wth k sg (nearM W n k))
        rw [HPR.out] at hB8
        rw [HPR.out]
        have hgr : ∀ b, b ≠ BX → b < wr.heap.size → (w7.setCells BX 0 (encB (preB W n (cells.take (k + 1))))).heap[b]? = wr.heap[b]? := fun b hb hlt => (heap_setCells hb _ 0 w7).trans ((hb7.block b (Nat.lt_of_lt_of_le hlt hb6.size)).trans (hb6.block b hlt))
        have hG8 : Hid ((w7.setCells BX 0 (encB (preB W n (cells.take (k + 1))))).heap[G]? = some (.cells #[.int .i64 W, .int .i64 H, .slice (some ⟨ab, ao, none⟩) n cap, .bool false] 58 (0, 0))) := (hgr G (by omega) (block_lt hG1.out)).trans hG1.out
        have hR8 : Hid ((w7.setCells BX 0 (encB (preB W n (cells.take (k + 1))))).heap[RX]? = some (.cells zer 65 (0, 0))) := (hgr RX (by omega) (block_lt hR1.out)).trans hR1.out
        have hb8 : Below w.heap.size w (w7.setCells BX 0 (encB (preB W n (cells.take (k + 1))))) := below_setCells _ 0 ((hbW.trans ((ofDrew hb6).mono hbW.size)).trans (hb7.mono (Nat.le_trans hbW.size hb6.size))) (by omega)
        have hS8 : C3 (w7.setCells BX 0 (encB (preB W n (cells.take (k + 1))))) := by
          rw [hC3]
          exact ⟨cell_of_block hG8.out 0, cell_of_block hG8.out 1, cell_of_block hG8.out 2, cell_of_block hG8.out 3⟩
        refine hK.out _ _ hS8 (fun _ => ?_)
        clear hK K
        refine wpAnyH_done (by kernel_rfl) ?_ _
        go_wp2_with fail
        go_roundw
        case rel => exact ⟨k + 1, by omega, by go_num, hG8, hB8, hR8, hb8⟩
        case measure => simp [intOf]; omega
    · obtain rfl : k = n := by omega
      have HT : cells.take k = cells := List.take_of_length_le (by rw [HCL.out]; exact Nat.le_refl _)
      rw [HT] at hB1
      generalize hyy : preB W k cells = y at *
      go_upto_region 7 with fail
      refine wp_region_lit ?_
      refine wpList_load_mid rfl 65 _ rfl BX 0 rfl (encB y) _ hB1.out.1 Tryd.underlying65 rfl (inf67.trans (by rw [encB_len])) ?_
      refine wpList_store_mid rfl 65 _ _ rfl RX 0 (encB y).toArray rfl rfl (by rw [encB_size]; exact there24 hR1.out rfl) (inf67.trans (by rw [encB_size])) (all_oneCell_toArray (encB_one y)) ?_
      refine wpList_nil ?_
      have hR2 := World.rangeAt_setCells_same wr RX 0 (encB y) (by rw [encB_len]; exact there24 hR1.out rfl)
      have hb2 := below_setCells (g := RX) (encB y) 0 hbW (by omega)
      go_wp2_with fail
      refine bodyPost_ret (v := .agg (encB y).toArray) (results_cell rfl rfl (run_loadVar_mid _ _ _ 65 (encB y) _ hR2 Tryd.underlying65 rfl (inf67.trans (by rw [encB_len])))) rfl ?_
      exact ⟨by rw [hyy], hb2⟩

end Go.Proofs.YthlbplmghjaeoaaDoor
