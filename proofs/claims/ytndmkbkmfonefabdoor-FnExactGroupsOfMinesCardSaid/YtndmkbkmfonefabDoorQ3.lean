/- Groups of mines: rows of spots that a call owns. -/
import Derived.Test.YtndmkbkmfonefabDoorQ2
import Derived.Test.YtndmkbkmfonefabDoorGY1
import Derived.Outline
namespace Go.Proofs.YtndmkbkmfonefabDoor
open Go.RowKit

def cells2 (L : List (Nat × Nat)) : List Value := L.flatMap fun p => [.int .i64 (p.1 : Int), .int .i64 (p.2 : Int)]
theorem cells2_cons (p : Nat × Nat) (L : List (Nat × Nat)) : cells2 (p :: L) = .int .i64 (p.1 : Int) :: .int .i64 (p.2 : Int) :: cells2 L := rfl
@[simp] theorem cells2_length : ∀ L : List (Nat × Nat), (cells2 L).length = L.length * 2
  | [] => rfl
  | p :: L => by rw [cells2_cons, List.length_cons, List.length_cons, cells2_length L, List.length_cons]; omega
theorem cells2_append (L M : List (Nat × Nat)) : cells2 (L ++ M) = cells2 L ++ cells2 M := by simp [cells2]
theorem cells2_at : ∀ (L : List (Nat × Nat)) (k : Nat) (h : k < L.length), (cells2 L)[k * 2]? = some (.int .i64 (L[k].1 : Int)) ∧ (cells2 L)[k * 2 + 1]? = some (.int .i64 (L[k].2 : Int))
  | p :: L, 0, _ => ⟨rfl, rfl⟩
  | p :: L, k + 1, h => by
    have ih := cells2_at L k (by simpa using h)
    rw [cells2_cons, show (k + 1) * 2 = k * 2 + 1 + 1 by omega]
    simpa using ih
theorem cells2_one (L : List (Nat × Nat)) : ∀ u ∈ cells2 L, u.oneCell' = true := by
  intro u hu
  obtain ⟨p, _, h⟩ := List.mem_flatMap.1 hu
  simp at h
  rcases h with rfl | rfl <;> rfl

/-- The call owns a row of the spots L from block B on. -/
def Own2 (w : World) (B : Nat) (v : Value) (L : List (Nat × Nat)) : Prop := w.ownsRow B 58 2 v L.length (cells2 L)
theorem Own2.nil (w : World) (B : Nat) : Own2 w B (.slice none 0 0) [] := World.ownsRow_nil _ _ _ _
theorem Own2.lt {w : World} {B : Nat} {v : Value} {L : List (Nat × Nat)} (h : Own2 w B v L) : ∀ k, v.ownBlock = some k → B ≤ k ∧ k < w.heap.size := World.ownsRow.lt h
theorem Own2.shape {w : World} {B : Nat} {v : Value} {L : List (Nat × Nat)} (h : Own2 w B v L) : ∃ a cap, v = .slice a L.length cap := by
  obtain ⟨h1, h2⟩ := h
  rcases h2 with ⟨hv, hn⟩ | ⟨g, cap, cur, hv, r⟩
  · exact ⟨none, 0, by rw [hv, hn]⟩
  · exact ⟨_, cap, hv⟩
theorem Own2.below {w w' : World} {B : Nat} {v : Value} {L : List (Nat × Nat)} (h : Own2 w B v L) {C : Nat} (hC : ∀ k, v.ownBlock = some k → k < C) (hb : Below C w w') : Own2 w' B v L := by
  obtain ⟨h1, h2⟩ := h
  refine ⟨h1, ?_⟩
  rcases h2 with h2 | ⟨g, cap, cur, hv, hg, hh, r⟩
  · exact .inl h2
  · exact .inr ⟨g, cap, cur, hv, hg, by rw [hb.block g (hC g (by rw [hv]; rfl))]; exact hh, r⟩
theorem Own2.later {w w' : World} {B : Nat} {v : Value} {L : List (Nat × Nat)} (h : Own2 w B v L) (hb : Below w.heap.size w w') : Own2 w' B v L := h.below (fun k hk => (h.lt k hk).2) hb
theorem Own2.mono {w : World} {B B' : Nat} {v : Value} {L : List (Nat × Nat)} (h : Own2 w B v L) (hB : B' ≤ B) : Own2 w B' v L := by
  obtain ⟨h1, h2⟩ := h
  refine ⟨h1, ?_⟩
  rcases h2 with h2 | ⟨g, cap, cur, hv, hg, r⟩
  · exact .inl h2
  · exact .inr ⟨g, cap, cur, hv, by omega, r⟩
theorem Own2.touch {b B : Nat} {w w' : World} {v : Value} {L : List (Nat × Nat)} (h : Own2 w B v L) (ht : Touch b w w') (hb : ∀ j, v.ownBlock = some j → j ≠ b) : Own2 w' B v L := by
  refine World.ownsRow.kept h ht ?_
  cases hv : v.ownBlock with
  | none => exact .inl rfl
  | some k => exact .inr (by simp; exact hb k hv)
theorem Own2.at {w : World} {B : Nat} {a : Option Addr} {n cap : Nat} {L : List (Nat × Nat)} (h : Own2 w B (.slice a n cap) L) (k : Nat) (hk : k < L.length) :
    ∃ g, a = some ⟨g, 0, none⟩ ∧ w.cell? ⟨g, k * 2, none⟩ = some (.int .i64 (L[k].1 : Int)) ∧ w.cell? ⟨g, k * 2 + 1, none⟩ = some (.int .i64 (L[k].2 : Int)) := by
  obtain ⟨c1, c2⟩ := cells2_at L k hk
  have hs := h
  obtain ⟨h1, h2⟩ := h
  rcases h2 with ⟨hv, hn⟩ | ⟨g, cap', cur, hv, r⟩
  · omega
  · obtain ⟨rfl, rfl, rfl⟩ : a = some ⟨g, 0, none⟩ ∧ n = L.length ∧ cap = cap' := by simpa using hv
    refine ⟨g, rfl, ?_, ?_⟩
    · have := World.ownsRow.cells hs (g := g) rfl _ _ c1
      rw [Addr.add_lit, Nat.zero_add] at this
      exact this
    · have := World.ownsRow.cells hs (g := g) rfl _ _ c2
      rw [Addr.add_lit, Nat.zero_add] at this
      exact this

theorem info2 : ∃ i, Tryd.prog.info? 58 = some i ∧ i.zero = some (.agg #[.int .i64 0, .int .i64 0]) ∧ i.size = 2 ∧ i.bytes = 16 := info_parts (by kernel_rfl)
/-- append of a row of spots, nil or not, to a row of spots. -/
theorem wpList_app2 {ops : Array Oper} {rest : List Oper} {o : Oper} {a : Act} {Q : Exit → Act → World → Prop} {w : World} (hgd : o.guard = none) (s x : Operand)
    (ho : o.op = .call { callee := .builtin .append, args := #[s, x], argTypes := #[101, 101] })
    (B : Nat) (v : Value) (L : List (Nat × Nat)) (hs : a.eval s = v) (hown : Own2 w B v L) (ad : Addr) (n c : Nat) (M : List (Nat × Nat)) (hx : a.eval x = .slice (some ad) n c) (hn : M.length = n)
    (hM : ∀ j u, (cells2 M)[j]? = some u → w.cell? (ad.add j) = some u) (hlen : L.length + M.length < 1048576) (hB : B ≤ w.heap.size)
    (h : ∀ v' w', Own2 w' B v' (L ++ M) → Below B w w' → w.grownBy w' v.ownBlock → wpList Tryd.prog ops Q rest (a.put o.dst v') w') : wpList Tryd.prog ops Q (o :: rest) a w := by
  subst hn
  obtain ⟨i, hi, hz, hsz, hby⟩ := info2
  refine wpList_append_own _ hgd s x _ ho B 58 i _ 2 16 Tryd.underlying101 hi hz hsz hby rfl (by decide) v L.length (cells2 L) hs hown ad M.length c (cells2 M) hx (cells2_length M) hM (cells2_one M) (by unfold maxLen; omega) (by omega) hB ?_
  intro v' w' h1 h2 _
  refine h v' w' ?_ ((Below.refl B w).grown h2 hB (fun k hk => (Own2.lt hown k hk).1)) h2
  unfold Own2
  rw [List.length_append, cells2_append]
  exact h1

theorem SRange.later {w w' : World} {b r n : Nat} {L T : List (Nat × Nat)} {cnt : Nat} (h : SRange w b r n L T cnt) (hb : Below w.heap.size w w') : SRange w' b r n L T cnt := by
  obtain ⟨D, left, hR, h2⟩ := h
  exact ⟨D, left, World.ranges.kept (row := none) hR ⟨hb.os, hb.tape, hb.output, hb.size, fun k hk _ => hb.block k hk⟩ (by simp) (by simp), h2⟩
theorem SRange.grown {w w' : World} {b r n : Nat} {L T : List (Nat × Nat)} {cnt : Nat} {row : Option Nat} (h : SRange w b r n L T cnt) (hg : w.grownBy w' row) (hb : some b ≠ row) (hr : some r ≠ row) : SRange w' b r n L T cnt := by
  obtain ⟨D, left, hR, h2⟩ := h
  exact ⟨D, left, World.ranges.kept hR hg hb hr, h2⟩
theorem strike_lt {T : List (Nat × Nat)} {p : Nat × Nat} (h : p ∈ T) : (T.filter fun q => !decide (q = p)).length < T.length := by
  rw [List.length_filter_lt_length_iff_exists]
  exact ⟨p, h, by simp⟩
theorem SRange.ltr {w : World} {b r n : Nat} {L T : List (Nat × Nat)} {cnt : Nat} (h : SRange w b r n L T cnt) : r < w.heap.size := by
  obtain ⟨D, left, hR, h2⟩ := h
  exact World.ranges.lt hR
theorem Touch.step {b r : Nat} {w w' w'' : World} (h : Touch b w w') (hg : w'.grownBy w'' (some r)) (hr : w.heap.size ≤ r) : Touch b w w'' :=
  ⟨hg.os.trans h.os, hg.tape.trans h.tape, hg.output.trans h.output, Nat.le_trans h.size hg.size, fun k hk hne => (hg.block k (Nat.lt_of_lt_of_le hk h.size) (by simp; omega)).trans (h.block k hk hne)⟩
theorem Own2.stepped {w w' : World} {B r : Nat} {v : Value} {L : List (Nat × Nat)} (h : Own2 w B v L) (hg : w.grownBy w' (some r)) (hr : r < B) : Own2 w' B v L := by
  refine World.ownsRow.kept h hg ?_
  cases hv : v.ownBlock with
  | none => exact .inl rfl
  | some k => exact .inr (by have := (Own2.lt h k hv).1; simp; omega)

/-- Whether a spot is beside another. -/
def nbS (V : Geo) (s p : Nat × Nat) : Bool := match V with
  | .plain _ => areNb p.1 p.2 s.1 s.2
  | .around W H => areNbJ true W H p.1 p.2 s.1 s.2
theorem nbS_geo (J : Bool) (W H : Nat) (s p : Nat × Nat) : nbS (geoOf J W H) s p = areNbJ J W H p.1 p.2 s.1 s.2 := by
  cases J
  · rw [areNb_false]; rfl
  · rfl
set_option maxRecDepth 100000 in
set_option maxHeartbeats 1600000 in
theorem takeNearJ_any {J : Bool} (W H : Nat) (a : Option Addr) (n0 cap : Nat) (b n : Nat) (L : List (Nat × Nat)) (s : Nat × Nat) (w : World) (hM : Spots w b n L) (hs : s.1 ≤ 64 ∧ s.2 ≤ 64) (hL : ∀ p ∈ L, p.1 ≤ 64 ∧ p.2 ≤ 64) (hl : L.length ≤ 64) (hJ : J = true → (1 ≤ W ∧ W ≤ 1048576) ∧ (1 ≤ H ∧ H ≤ 1048576)) :
    Calls Tryd.prog 95 #[.agg #[.int .i64 W, .int .i64 H, .slice a n0 cap, .bool J], .map (some b), spV s] w fun e w' => ∃ a' cap' N, e = .returned (.slice a' N.length cap') ∧ Own2 w' w.heap.size (.slice a' N.length cap') N ∧ N.Nodup ∧ (∀ p, p ∈ N ↔ p ∈ L ∧ nbS (geoOf J W H) s p = true) ∧ Spots w' b n (L.filter (fun p => !nbS (geoOf J W H) s p)) ∧ Touch b w w' := by
  have hM0 : ∀ o p, Spots ((w.alloc o).alloc p) b n L := fun o p => hM.later (((Below.refl _ w).alloc (Nat.le_refl _) o).alloc (by simp) p)
  unfold spV
  go_enter Tryd.func95, Tryd.ntmps95
  have hb0 : Below w.heap.size w ((w.alloc (.cells #[.int .i64 W, .int .i64 H, .slice a n0 cap, .bool J] 50)).alloc (.cells #[.int .i64 (s.1 : Int), .int .i64 (s.2 : Int)] 58)) := ((Below.refl _ _).alloc (Nat.le_refl _) _).alloc (by simp) _
  have hS0 : ((w.alloc (.cells #[.int .i64 W, .int .i64 H, .slice a n0 cap, .bool J] 50)).alloc (.cells #[.int .i64 (s.1 : Int), .int .i64 (s.2 : Int)] 58)).heap[w.heap.size + 1]? = some (.cells #[.int .i64 (s.1 : Int), .int .i64 (s.2 : Int)] 58 (0, 0)) := by
    have := heap_alloc_new (w.alloc (.cells #[.int .i64 W, .int .i64 H, .slice a n0 cap, .bool J] 50)) (.cells #[.int .i64 (s.1 : Int), .int .i64 (s.2 : Int)] 58)
    simpa using this
  have hG0 : ((w.alloc (.cells #[.int .i64 W, .int .i64 H, .slice a n0 cap, .bool J] 50)).alloc (.cells #[.int .i64 (s.1 : Int), .int .i64 (s.2 : Int)] 58)).heap[w.heap.size]? = some (.cells #[.int .i64 W, .int .i64 H, .slice a n0 cap, .bool J] 50 (0, 0)) := (Below.heap_alloc _ _ _ (by simp)).trans (heap_alloc_new w _)
  have hs0 : ((w.alloc (.cells #[.int .i64 W, .int .i64 H, .slice a n0 cap, .bool J] 50)).alloc (.cells #[.int .i64 (s.1 : Int), .int .i64 (s.2 : Int)] 58)).heap.size = w.heap.size + 2 := by simp
  go_wp2_with (first | (at_range; refine wpList_spot_range rfl _ rfl b n L rfl (hM0 _ _) ?_; intro w1 cnt hr hg hsz))
  have hbl := hM.lt
  have hOK : ∀ p, p ∈ L → spOK p := fun p hp => ⟨by have := (hL p hp).1; omega, by have := (hL p hp).2; omega⟩
  have ht1 : Touch b w w1 := (Touch.of hb0).trans ⟨hg.os, hg.tape, hg.output, hg.size, fun k hk _ => hg.block k hk (by simp)⟩
  have hS1 : w1.heap[w.heap.size + 1]? = some (.cells #[.int .i64 (s.1 : Int), .int .i64 (s.2 : Int)] 58 (0, 0)) := (hg.block _ (by omega) (by simp)).trans hS0
  have hG1 : w1.heap[w.heap.size]? = some (.cells #[.int .i64 W, .int .i64 H, .slice a n0 cap, .bool J] 50 (0, 0)) := (hg.block _ (by omega) (by simp)).trans hG0
  generalize (w.alloc (.cells #[.int .i64 W, .int .i64 H, .slice a n0 cap, .bool J] 50)).alloc (.cells #[.int .i64 (s.1 : Int), .int .i64 (s.2 : Int)] 58) = w0 at *
  rw [hs0] at hr hsz ⊢
  clear hg hS0 hG0 hb0 hM0
  simp only [Act.put, List.setIfInBounds_toArray, List.set_cons_zero, List.set_cons_succ]
  go_loopw [7] (fun v wr => ∃ (N L' T : List (Nat × Nat)) (cnt : Nat), SRange wr b (w.heap.size + 2) n L' T cnt ∧ Own2 wr (w.heap.size + 3) v N ∧ N.Nodup ∧ Hid (∀ p, p ∈ N ↔ p ∈ L ∧ nbS (geoOf J W H) s p = true ∧ p ∉ T) ∧ Hid (L' = L.filter (fun p => !nbS (geoOf J W H) s p || decide (p ∈ T))) ∧ Hid (∀ p, p ∈ T → p ∈ L) ∧ N.length + T.length ≤ 64 ∧ Hid (wr.heap[w.heap.size + 1]? = some (.cells #[.int .i64 (s.1 : Int), .int .i64 (s.2 : Int)] 58 (0, 0))) ∧ Hid (wr.heap[w.heap.size]? = some (.cells #[.int .i64 W, .int .i64 H, .slice a n0 cap, .bool J] 50 (0, 0))) ∧ Touch b w wr) (fun _ wr => wr.rangeLeft b (w.heap.size + 2))
  case atStart => exact ⟨[], L, L, cnt, hr, Own2.nil _ _, List.nodup_nil, Lib.hid (fun p => ⟨fun h => absurd h (by simp), fun h => absurd h.1 h.2.2⟩), Lib.hid (List.filter_eq_self.2 (fun p hp => by simp [hp])).symm, Lib.hid (fun p h => h), by simpa using hl, Lib.hid hS1, Lib.hid hG1, ht1⟩
  case round =>
    obtain ⟨N, L', T, cnt', hrg, hown, hnd, hN, hL', hT, hNT, hS, hG, ht⟩ := hrel
    obtain ⟨va, vc, rfl⟩ := hown.shape
    have hSr := cell_of_block hS.out 0
    have hSr1 := cell_of_block hS.out 1
    simp at hSr hSr1
    go_wp2_with (first | (at_next; refine wpList_spot_next rfl _ rfl b (w.heap.size + 2) n L' T cnt' rfl hrg ?_ ?_))
    case refine_1 =>
      intro h0 hT0
      have hT0' : ∀ p, p ∉ T := fun p hp => hT0 p.1 p.2 (hOK p (hT.out p hp)) hp
      have HT0 := Lib.hid hT0'
      clear hT0 hT0'
      go_wp2_with fail
      go_ret
      refine ⟨va, vc, N, rfl, hown.mono (by omega), hnd, fun p => ?_, ?_, ht⟩
      · rw [hN.out p]
        exact ⟨fun h => ⟨h.1, h.2.1⟩, fun h => ⟨h.1, h.2, HT0.out p⟩⟩
      · have e : L.filter (fun p => !nbS (geoOf J W H) s p) = L' := by
          rw [hL'.out]
          exact List.filter_congr (fun p _ => by simp [HT0.out p])
        rw [e]
        exact hrg.spots
    case refine_2 =>
      intro p1 p2 w2 cnt2 hpOK hpT hpL hrg2 hlt hgr2 hsz2 hen
      have hTl := strike_lt hpT
      have hpL0 := hT.out _ hpT
      have hp64 := hL _ hpL0
      simp only at hp64
      unfold spV at hen ⊢
      simp only at hen ⊢
      have hS2 := (hgr2.block _ (by have := block_lt hS.out; omega) (by simp)).trans hS.out
      have hG2 := (hgr2.block _ (by have := block_lt hG.out; omega) (by simp)).trans hG.out
      have hg0 := cell_of_block hS2 0
      have hg1 := cell_of_block hS2 1
      have hk0 := cell_of_block hG2 0
      have hk1 := cell_of_block hG2 1
      have hk2 := cell_of_block hG2 2
      have hk3 := cell_of_block hG2 3
      simp at hg0 hg1 hk0 hk1 hk2 hk3
      have ht2 := ht.step hgr2 (by omega)
      have hown2 := hown.stepped hgr2 (by omega)
      have hmeas := Lib.hid hrg.left_eq
      have hSlt := block_lt hS2
      have hy0 : ∀ o, (w2.alloc o).cell? ⟨w.heap.size + 1, 0, none⟩ = some (.int .i64 (s.1 : Int)) := fun o => by rw [cell_new w2 o (w.heap.size + 1) hSlt]; exact hg0
      have hy1 : ∀ o, (w2.alloc o).cell? ⟨w.heap.size + 1, 1, none⟩ = some (.int .i64 (s.2 : Int)) := fun o => by rw [cell_new w2 o (w.heap.size + 1) hSlt]; exact hg1
      have hGlt := block_lt hG2
      have hk0' : ∀ o, (w2.alloc o).cell? ⟨w.heap.size, 0, none⟩ = some (.int .i64 W) := fun o => by rw [cell_new w2 o w.heap.size hGlt]; exact hk0
      have hk1' : ∀ o, (w2.alloc o).cell? ⟨w.heap.size, 1, none⟩ = some (.int .i64 H) := fun o => by rw [cell_new w2 o w.heap.size hGlt]; exact hk1
      have hk2' : ∀ o, (w2.alloc o).cell? ⟨w.heap.size, 2, none⟩ = some (.slice a n0 cap) := fun o => by rw [cell_new w2 o w.heap.size hGlt]; exact hk2
      have hk3' : ∀ o, (w2.alloc o).cell? ⟨w.heap.size, 3, none⟩ = some (.bool J) := fun o => by rw [cell_new w2 o w.heap.size hGlt]; exact hk3
      have HSr := Lib.hid hS2
      have HGr := Lib.hid hG2
      have HNB : Hid (nbS (geoOf J W H) s (p1, p2) = areNbJ J W H p1 p2 s.1 s.2) := nbS_geo J W H s (p1, p2)
      clear hSr hSr1 hS2 hG2 hgr2 hrg ht hown hS hG hg0 hg1 hk0 hk1 hk2 hk3
      have HSZ := Lib.hid hsz2
      clear hsz2
      go_wp2_with fail
      have hba : Below w2.heap.size w2 (w2.alloc (.cells #[.int .i64 (p1 : Int), .int .i64 (p2 : Int)] 58)) := (Below.refl _ _).alloc (Nat.le_refl _) _
      have hPa : (w2.alloc (.cells #[.int .i64 (p1 : Int), .int .i64 (p2 : Int)] 58)).heap[w2.heap.size]? = some (.cells #[.int .i64 (p1 : Int), .int .i64 (p2 : Int)] 58 (0, 0)) := heap_alloc_new w2 _
      have hsa : w2.heap.size < (w2.alloc (.cells #[.int .i64 (p1 : Int), .int .i64 (p2 : Int)] 58)).heap.size := by simp
      generalize w2.alloc (.cells #[.int .i64 (p1 : Int), .int .i64 (p2 : Int)] 58) = w3 at *
      refine (areNeighboursJ_any W H a n0 cap p1 p2 s.1 s.2 w3 hp64.1 hp64.2 hs.1 hs.2 hJ).mono ?_
      rintro e w4 ⟨rfl, hb4⟩
      have hb24 : Below w2.heap.size w2 w4 := hba.trans (hb4.mono (by omega))
      have hP4 := (hb4.block _ hsa).trans hPa
      have hS4 := (hb24.block _ hSlt).trans HSr.out
      have hG4 := (hb24.block _ hGlt).trans HGr.out
      have hrg4 := hrg2.later hb24
      have hown4 := hown2.later hb24
      have ht4 := ht2.trans (Touch.of hb24)
      have hx0 := cell_of_block hP4 0
      have hx1 := cell_of_block hP4 1
      simp at hx0 hx1
      clear hba hb4 hPa hrg2 ht2 hb24 hy0 hy1 hk0' hk1' hk2' hk3'
      cases hnb : areNbJ J W H p1 p2 s.1 s.2 with
      | false =>
        have HNF : Hid (nbS (geoOf J W H) s (p1, p2) = false) := by rw [Hid, HNB.out, hnb]
        clear hnb
        go_wp2_with fail
        go_roundw
        case rel =>
          refine ⟨N, L', _, cnt2, hrg4, hown4, hnd, Lib.hid (fun p => ?_), ?_, Lib.hid (fun p h => hT.out p (List.mem_filter.1 h).1), by omega, Lib.hid hS4, Lib.hid hG4, ht4⟩
          · rw [hN.out p]
            by_cases e : p = (p1, p2)
            · rw [e, HNF.out]
              simp
            · simp [e]
          · rw [Hid, hL'.out]
            refine List.filter_congr (fun p _ => ?_)
            by_cases e : p = (p1, p2)
            · rw [e, HNF.out]; rfl
            · simp [e]
        case measure => rw [hrg4.left_eq, hmeas.out]; exact hlt
      | true =>
        have HNT : Hid (nbS (geoOf J W H) s (p1, p2) = true) := by rw [Hid, HNB.out, hnb]
        clear hnb
        have hM2 : ∀ j u, (cells2 [(p1, p2)])[j]? = some u → (w4.alloc (.cells #[.int .i64 (p1 : Int), .int .i64 (p2 : Int)] 58)).cell? ((⟨w4.heap.size, 0, none⟩ : Addr).add j) = some u := by
          intro j u hu
          have hb := heap_alloc_new w4 (.cells #[.int .i64 (p1 : Int), .int .i64 (p2 : Int)] 58)
          rw [Addr.add_lit, Nat.zero_add]
          have h2 := cell_of_block hb j
          match j, hu with
          | 0, hu => obtain rfl : Value.int .i64 (p1 : Int) = u := by simpa [cells2] using hu
                     rw [h2]; rfl
          | 1, hu => obtain rfl : Value.int .i64 (p2 : Int) = u := by simpa [cells2] using hu
                     rw [h2]; rfl
          | j + 2, hu => simp [cells2] at hu
        have hown4a := hown4.later ((Below.refl w4.heap.size w4).alloc (Nat.le_refl _) (.cells #[.int .i64 (p1 : Int), .int .i64 (p2 : Int)] 58))
        have hw24 : w.heap.size + 3 ≤ w4.heap.size := by have := hrg4.ltr; omega
        have hP4a := (Below.heap_alloc w4 (.cells #[.int .i64 (p1 : Int), .int .i64 (p2 : Int)] 58) _ (block_lt hP4)).trans hP4
        have hS4a := (Below.heap_alloc w4 (.cells #[.int .i64 (p1 : Int), .int .i64 (p2 : Int)] 58) _ (block_lt hS4)).trans hS4
        have hG4a := (Below.heap_alloc w4 (.cells #[.int .i64 (p1 : Int), .int .i64 (p2 : Int)] 58) _ (block_lt hG4)).trans hG4
        have hrg4a := hrg4.later ((Below.refl w4.heap.size w4).alloc (Nat.le_refl _) (.cells #[.int .i64 (p1 : Int), .int .i64 (p2 : Int)] 58))
        have ht4a := ht4.trans (Touch.of ((Below.refl w4.heap.size w4).alloc (Nat.le_refl _) (.cells #[.int .i64 (p1 : Int), .int .i64 (p2 : Int)] 58)))
        have hsz4 : w4.heap.size < (w4.alloc (.cells #[.int .i64 (p1 : Int), .int .i64 (p2 : Int)] 58)).heap.size := by simp
        have hP24 : w2.heap.size < w4.heap.size := block_lt hP4
        have hob := fun j (hj : (Value.slice va N.length vc).ownBlock = some j) => (hown2.lt j hj)
        have hLP : ∀ p, p ∈ N ++ [(p1, p2)] ↔ p ∈ L ∧ nbS (geoOf J W H) s p = true ∧ p ∉ T.filter (fun q => !decide (q = (p1, p2))) := fun p => by
          by_cases e : p = (p1, p2)
          · rw [e]; simp [HNT.out, hpL0]
          · rw [List.mem_append, hN.out p]; simp [e]
        go_wp2_with (first
          | (at_builtin; refine wpList_app2 rfl _ _ rfl (w.heap.size + 3) _ N rfl hown4a _ 1 1 [(p1, p2)] rfl rfl hM2 (by simp; omega) (by simp; omega) ?_; intro v5 w5 hown5 hb5 hg5; have hP5 := (hg5.block w2.heap.size (by omega) (fun q => by have := hob w2.heap.size q.symm; omega)).trans hP4a; have hz0 := cell_of_block hP5 0; have hz1 := cell_of_block hP5 1; simp at hz0 hz1; have hrg5 := hrg4a.grown hg5 (fun q => by have := hob b q.symm; omega) (fun q => by have := hob (w.heap.size + 2) q.symm; omega); have ht5 := ht4a.then hb5 (by omega); have hS5 := (hb5.block (w.heap.size + 1) (by omega)).trans hS4a; have hG5 := (hb5.block w.heap.size (by omega)).trans hG4a)
          | (at_delete; refine wpList_spot_delIn rfl _ _ rfl b (w.heap.size + 2) n L' _ cnt2 rfl hrg5 (p1, p2) rfl hpOK ?_; intro w6 cnt6 hrg6 hle6 ht6))
        go_roundw
        case rel =>
          refine ⟨_, _, _, _, _, _, _, _, _, _, _, _, _, _, _, _, ?_, rfl⟩
          refine ⟨N ++ [(p1, p2)], _, _, cnt6, hrg6, hown5.touch ht6 (fun j hj => by have := (hown5.lt j hj).1; omega), ?_, Lib.hid (fun p => ?_), ?_, Lib.hid (fun p h => hT.out p (List.mem_filter.1 (List.mem_filter.1 h).1).1), ?_, Lib.hid ((ht6.block (w.heap.size + 1) (block_lt hS5) (by simp; omega)).trans hS5), Lib.hid ((ht6.block w.heap.size (block_lt hG5) (by simp; omega)).trans hG5), ht5.trans ht6⟩
          · rw [List.nodup_append]
            refine ⟨hnd, by simp, fun q hq r hr e => ?_⟩
            rw [List.mem_singleton] at hr
            subst hr
            subst e
            exact ((hN.out _).1 hq).2.2 hpT
          · rw [hLP p]
            simp only [List.mem_filter]
            constructor
            · exact fun h => ⟨h.1, h.2.1, fun q => h.2.2 q.1⟩
            · exact fun h => ⟨h.1, h.2.1, fun q => h.2.2 ⟨q, by simpa using q.2⟩⟩
          · rw [Hid, hL'.out, List.filter_filter]
            refine List.filter_congr (fun p _ => ?_)
            by_cases e : p = (p1, p2)
            · rw [e, HNT.out]; simp
            · simp [e]
          · have := List.length_filter_le (fun q => decide (q ≠ (p1, p2))) (T.filter (fun q => !decide (q = (p1, p2))))
            simp only [List.length_append, List.length_singleton]
            omega
        case measure => rw [hrg6.left_eq, hmeas.out]; omega
end Go.Proofs.YtndmkbkmfonefabDoor
