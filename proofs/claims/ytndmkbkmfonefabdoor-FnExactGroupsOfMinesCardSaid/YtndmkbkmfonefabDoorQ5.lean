/- Groups of mines: a group is taken out of the spots that are left. -/
import Derived.Test.YtndmkbkmfonefabDoorQ4
import Derived.Test.YtndmkbkmfonefabDoorU1
import Derived.Test.YtndmkbkmfonefabDoorYK
import Derived.Outline
namespace Go.Proofs.YtndmkbkmfonefabDoor
open Go.RowKit

theorem dist_comm (a b : Nat) : dist a b = dist b a := by unfold dist; omega
theorem nbJ_symm (J : Bool) (W H a b c d : Nat) : areNbJ J W H a b c d = areNbJ J W H c d a b := by
  have e : (a == c && b == d) = (c == a && d == b) := by
    rw [Bool.eq_iff_iff]
    simp only [Bool.and_eq_true, beq_iff_eq]
    omega
  unfold areNbJ tchJ
  rw [e, dist_comm a c, dist_comm b d]
theorem nbS_symm (V : Geo) (p q : Nat × Nat) : nbS V p q = nbS V q p := by
  cases V with
  | plain W =>
    show areNb q.1 q.2 p.1 p.2 = areNb p.1 p.2 q.1 q.2
    rw [← areNb_false 0 0, ← areNb_false 0 0]
    exact nbJ_symm _ _ _ _ _ _ _
  | around W H => exact nbJ_symm _ _ _ _ _ _ _
/-- Spots that hang together with one, by steps from neighbour to neighbour in a list. -/
inductive Conn (V : Geo) (X : List (Nat × Nat)) (c : Nat × Nat) : Nat × Nat → Prop
  | base : Conn V X c c
  | step {p q : Nat × Nat} : Conn V X c p → q ∈ X → nbS V p q = true → Conn V X c q
theorem conn_closed {V : Geo} {X G : List (Nat × Nat)} {c : Nat × Nat} (hc : c ∈ G) (h : ∀ p, p ∈ G → ∀ q, q ∈ X → nbS V p q = true → q ∈ G) : ∀ p, Conn V X c p → p ∈ G := by
  intro p hp
  induction hp with
  | base => exact hc
  | step _ hq hn ih => exact h _ ih _ hq hn

theorem Own2.one (w : World) (B : Nat) (p : Nat × Nat) (hB : B ≤ w.heap.size) : Own2 (w.alloc (.cells #[.int .i64 (p.1 : Int), .int .i64 (p.2 : Int)] 58)) B (.slice (some ⟨w.heap.size, 0, none⟩) 1 1) [p] :=
  ⟨rfl, .inr ⟨w.heap.size, 1, #[.int .i64 (p.1 : Int), .int .i64 (p.2 : Int)], rfl, hB, heap_alloc_new w _, Nat.le_refl _, by unfold maxLen; omega, rfl, rfl⟩⟩
/-- One step of a group: behind takeNear. -/
theorem group_step {V : Geo} {L G N : List (Nat × Nat)} {s : Nat × Nat} (hG : G.Nodup) (hN : N.Nodup) (hm : ∀ p, p ∈ N ↔ p ∈ L.filter (fun p => decide (p ∉ G)) ∧ nbS V s p = true) :
    (G ++ N).Nodup ∧ (L.filter (fun p => decide (p ∉ G))).filter (fun p => !nbS V s p) = L.filter (fun p => decide (p ∉ G ++ N)) := by
  constructor
  · rw [List.nodup_append]
    refine ⟨hG, hN, fun p hp q hq e => ?_⟩
    subst e
    have := ((hm p).1 hq).1
    simp at this
    exact this.2 hp
  · rw [List.filter_filter]
    refine List.filter_congr (fun p hp => ?_)
    have hq : p ∈ N ↔ p ∉ G ∧ nbS V s p = true := by rw [hm p]; simp [hp]
    by_cases h1 : p ∈ G
    · simp [h1]
    · by_cases h2 : nbS V s p = true
      · have : p ∈ N := hq.2 ⟨h1, h2⟩
        simp [h2, this]
      · have : p ∉ N := fun q => h2 (hq.1 q).2
        simp [h1, h2, this]
theorem nodup_sub {G L : List (Nat × Nat)} (hG : G.Nodup) (h : ∀ p, p ∈ G → p ∈ L) : G.length ≤ L.length := by
  induction G generalizing L with
  | nil => simp
  | cons x r ih =>
    rw [List.nodup_cons] at hG
    have hx := h x List.mem_cons_self
    have h2 := ih hG.2 (L := L.erase x) (fun p hp => by
      have hne : p ≠ x := fun e => hG.1 (e ▸ hp)
      exact (List.mem_erase_of_ne hne).2 (h p (List.mem_cons_of_mem _ hp)))
    rw [List.length_erase_of_mem hx] at h2
    have : 0 < L.length := List.length_pos_of_mem hx
    simp only [List.length_cons]
    omega

theorem Spots.grown {w w' : World} {b n : Nat} {L : List (Nat × Nat)} {row : Option Nat} (h : Spots w b n L) (hg : w.grownBy w' row) (hb : some b ≠ row) : Spots w' b n L := by
  obtain ⟨D, h1, h2⟩ := h
  exact ⟨D, World.ownsMap.kept h1 hg hb, h2⟩
/-- append of a row of spots that another call made, nil or not. -/
theorem wpList_app2n {ops : Array Oper} {rest : List Oper} {o : Oper} {a : Act} {Q : Exit → Act → World → Prop} {w : World} (hgd : o.guard = none) (s x : Operand)
    (ho : o.op = .call { callee := .builtin .append, args := #[s, x], argTypes := #[101, 101] })
    (B : Nat) (v : Value) (L : List (Nat × Nat)) (hs : a.eval s = v) (hown : Own2 w B v L) (A : Option Addr) (n c B' : Nat) (M : List (Nat × Nat)) (hx : a.eval x = .slice A n c) (hM : Own2 w B' (.slice A n c) M) (hlen : L.length + M.length < 1048576) (hB : B ≤ w.heap.size)
    (h : ∀ v' w', Own2 w' B v' (L ++ M) → w.grownBy w' v.ownBlock → wpList Tryd.prog ops Q rest (a.put o.dst v') w') : wpList Tryd.prog ops Q (o :: rest) a w := by
  obtain ⟨a2, c2, hsh⟩ := hM.shape
  obtain ⟨rfl, rfl, rfl⟩ : A = a2 ∧ n = M.length ∧ c = c2 := by simpa using hsh
  cases A with
  | some ad =>
    refine wpList_app2 hgd s x ho B v L hs hown ad M.length c M hx rfl (fun j u hu => ?_) hlen hB (fun v' w' h1 _ h3 => h v' w' h1 h3)
    obtain ⟨g, cap, cur, hv, _⟩ := hM.2.resolve_left (by simp)
    obtain ⟨rfl, _⟩ : ad = ⟨g, 0, none⟩ ∧ c = cap := by simpa using hv
    exact World.ownsRow.cells hM (g := g) rfl j u hu
  | none =>
    obtain rfl : M = [] := by
      rcases hM.2 with ⟨_, hn⟩ | ⟨g, cap, cur, hv, _⟩
      · exact List.length_eq_zero_iff.1 hn
      · simp at hv
    obtain ⟨i, hi, hz, hsz, hby⟩ := info2
    refine wpList_plain hgd fun K hK => ?_
    have hrun : (Builtin.append_ #[101, 101] o.type #[v, .slice none 0 c]).run Tryd.prog w = .ok v w := by
      rcases hown.2 with ⟨rfl, _⟩ | ⟨g, cap, cur, rfl, _, _, hnc, _⟩
      · simp [Builtin.append_, run_underlying Tryd.underlying101, sizeOf, typeInfo, hi, Builtin.lenOf, Builtin.firstCells]
      · simp [Builtin.append_, run_underlying Tryd.underlying101, sizeOf, typeInfo, hi, Builtin.lenOf, Builtin.firstCells, hnc, storeCells]
    unfold Oper.wp execOp
    have hx' : a.eval x = .slice none 0 c := hx
    simp only [ho, resolve, invoke, builtin, Sem.run_bind, Sem.run_pure, Result.andThen_ok, List.map_toArray, List.map_cons, List.map_nil, hs, hx', hrun]
    exact hK _ _ (h v w (by simpa using hown) ⟨rfl, rfl, rfl, Nat.le_refl _, fun _ _ _ => rfl⟩)

/-- The same as a run. -/
theorem run_app2n (w : World) (ty B : Nat) (v : Value) (L : List (Nat × Nat)) (hown : Own2 w B v L) (A : Option Addr) (n c B' : Nat) (M : List (Nat × Nat)) (hM : Own2 w B' (.slice A n c) M) (hlen : L.length + M.length < 1048576) (hB : B ≤ w.heap.size) :
    ∃ v' w', (Builtin.append_ #[101, 101] ty #[v, .slice A n c]).run Tryd.prog w = .ok v' w' ∧ Own2 w' B v' (L ++ M) ∧ w.grownBy w' v.ownBlock := by
  obtain ⟨a2, c2, hsh⟩ := hM.shape
  obtain ⟨rfl, rfl, rfl⟩ : A = a2 ∧ n = M.length ∧ c = c2 := by simpa using hsh
  obtain ⟨i, hi, hz, hsz, hby⟩ := info2
  cases A with
  | some ad =>
    obtain ⟨g, cap, cur, hv, _⟩ := hM.2.resolve_left (by simp)
    obtain ⟨rfl, _⟩ : ad = ⟨g, 0, none⟩ ∧ c = cap := by simpa using hv
    obtain ⟨v', w', hr, h2, h3, _⟩ := run_append_own (P := Tryd.prog) w B 101 ty 58 i _ 2 16 Tryd.underlying101 hi hz hsz hby rfl (by decide) v L.length (cells2 L) hown ⟨g, 0, none⟩ M.length c (cells2 M) (cells2_length M) (World.ownsRow.cells hM (g := g) rfl) (cells2_one M) (by unfold maxLen; omega) (by omega) hB
    refine ⟨v', w', hr, ?_, h3⟩
    unfold Own2
    rw [List.length_append, cells2_append]
    exact h2
  | none =>
    obtain rfl : M = [] := by
      rcases hM.2 with ⟨_, hn⟩ | ⟨g, cap, cur, hv, _⟩
      · exact List.length_eq_zero_iff.1 hn
      · simp at hv
    refine ⟨v, w, ?_, by simpa using hown, ⟨rfl, rfl, rfl, Nat.le_refl _, fun _ _ _ => rfl⟩⟩
    rcases hown.2 with ⟨rfl, _⟩ | ⟨g, cap, cur, rfl, _, _, hnc, _⟩
    · simp [Builtin.append_, run_underlying Tryd.underlying101, sizeOf, typeInfo, hi, Builtin.lenOf, Builtin.firstCells]
    · simp [Builtin.append_, run_underlying Tryd.underlying101, sizeOf, typeInfo, hi, Builtin.lenOf, Builtin.firstCells, hnc, storeCells]
theorem step_app2n {ops : Array Oper} {o : Oper} {a : Act} {K : Act → World → Prop} {Q : Exit → Act → World → Prop} {S : Prop} {w : World} (hgd : o.guard = none) (s x : Operand)
    (ho : o.op = .call { callee := .builtin .append, args := #[s, x], argTypes := #[101, 101] })
    (B : Nat) (v : Value) (L : List (Nat × Nat)) (hs : a.eval s = v) (hown : Own2 w B v L) (A : Option Addr) (n c B' : Nat) (M : List (Nat × Nat)) (hx : a.eval x = .slice A n c) (hM : Own2 w B' (.slice A n c) M) (hlen : L.length + M.length < 1048576) (hB : B ≤ w.heap.size)
    (h : ∀ v' w', Own2 w' B v' (L ++ M) → w.grownBy w' v.ownBlock → K (a.put o.dst v') w') :
    if Region.wanted o (yielded ops a.tmps) = true then Oper.wp Tryd.prog o a w K Q else S := by
  have hw : Region.wanted o (yielded ops a.tmps) = true := by simp [Region.wanted, hgd]
  rw [if_pos hw]
  obtain ⟨v', w', hrun, h2, h3⟩ := run_app2n w o.type B v L hown A n c B' M hM hlen hB
  unfold Oper.wp execOp
  simp only [ho, resolve, invoke, builtin, Sem.run_bind, Sem.run_pure, Result.andThen_ok, List.map_toArray, List.map_cons, List.map_nil, hs, hx, hrun]
  exact h v' w' h2 h3

theorem cells_nodup {W : Nat} {G : List (Nat × Nat)} (hG : G.Nodup) (h : ∀ p ∈ G, p.2 < W) : (G.map fun p => p.1 * W + p.2).Nodup := by
  induction G with
  | nil => simp
  | cons x r ih =>
    rw [List.nodup_cons] at hG
    rw [List.map_cons, List.nodup_cons]
    refine ⟨fun hm => ?_, ih hG.2 (fun p hp => h p (List.mem_cons_of_mem _ hp))⟩
    obtain ⟨p, hp, he⟩ := List.mem_map.1 hm
    have h1 := h p (List.mem_cons_of_mem _ hp)
    have h2 := h x List.mem_cons_self
    have e1 : p.2 = x.2 := by
      have := congrArg (· % W) he
      simpa [Nat.mul_add_mod, Nat.mod_eq_of_lt h1, Nat.mod_eq_of_lt h2, Nat.add_comm, Nat.mul_comm, Nat.add_mul_mod_self_left] using this
    have e2 : p.1 = x.1 := by
      have h3 : p.1 * W = x.1 * W := by omega
      exact Nat.eq_of_mul_eq_mul_right (by omega) h3
    exact hG.1 (by rw [← Prod.ext e2 e1]; exact hp)

set_option maxRecDepth 100000 in
set_option maxHeartbeats 1600000 in
theorem takeGroupJ_any {J : Bool} (W H : Nat) (a : Option Addr) (n0 cap : Nat) (b n : Nat) (L : List (Nat × Nat)) (c : Nat) (w : World) (hM : Spots w b n L) (hW : 1 ≤ W) (hW8 : W ≤ 8) (hc : c ≤ 63) (hcL : spOf W c ∈ L) (hL : ∀ p ∈ L, p.1 ≤ 64 ∧ p.2 ≤ 64) (hLW : ∀ p ∈ L, p.2 < W) (hl : L.length ≤ 64) (hJ : J = true → (1 ≤ W ∧ W ≤ 1048576) ∧ (1 ≤ H ∧ H ≤ 1048576)) :
    Calls Tryd.prog 83 #[.agg #[.int .i64 W, .int .i64 H, .slice a n0 cap, .bool J], .map (some b), .int .i64 c] w fun e w' => ∃ (a' : Option Addr) (cap' : Nat) (G : List (Nat × Nat)) (R : List Nat), e = .returned (.slice a' R.length cap') ∧ Owns w' w.heap.size 3 (.slice a' R.length cap') (nats R) ∧ R.Pairwise (· < ·) ∧ (∀ x, x ∈ R ↔ ∃ p : Nat × Nat, p ∈ G ∧ x = p.1 * W + p.2)
      ∧ (∀ p, p ∈ G ↔ Conn (geoOf J W H) L (spOf W c) p) ∧ (∀ p, p ∈ G → p ∈ L) ∧ Spots w' b n (L.filter (fun p => decide (p ∉ G))) ∧ Touch b w w' := by
  go_enter Tryd.func83, Tryd.ntmps83
  go_wp2_with fail
  have hb0 : Below w.heap.size w (w.alloc (.cells #[.int .i64 W, .int .i64 H, .slice a n0 cap, .bool J] 50)) := (Below.refl _ _).alloc (Nat.le_refl _) _
  have hG0 : (w.alloc (.cells #[.int .i64 W, .int .i64 H, .slice a n0 cap, .bool J] 50)).heap[w.heap.size]? = some (.cells #[.int .i64 W, .int .i64 H, .slice a n0 cap, .bool J] 50 (0, 0)) := heap_alloc_new w _
  have hs0 : w.heap.size < (w.alloc (.cells #[.int .i64 W, .int .i64 H, .slice a n0 cap, .bool J] 50)).heap.size := by simp
  generalize w.alloc (.cells #[.int .i64 W, .int .i64 H, .slice a n0 cap, .bool J] 50) = w0 at *
  refine (spotOf_any W H a n0 cap c w0 hW (by omega)).mono ?_
  rintro e w1 ⟨rfl, hb1⟩
  have s1 := hb1.size
  have hbl := hM.lt
  have hM1 := (hM.later hb0).later hb1
  have hG1 := (hb1.block _ hs0).trans hG0
  have hb01 := hb0.trans (hb1.mono (by omega))
  clear hG0 hM hb0 hb1
  have hcs : spOf W c = (c / W, c % W) := rfl
  have hOK : spOK (c / W, c % W) := ⟨Nat.lt_of_le_of_lt (Nat.div_le_self _ _) (by omega), Nat.lt_of_le_of_lt (Nat.mod_le _ _) (by omega)⟩
  rw [hcs] at hcL
  have HCS := Lib.hid hcs
  clear hcs
  generalize hr0 : c / W = r0 at *
  generalize hc0 : c % W = c0 at *
  clear hr0 hc0
  have hMa : Spots (w1.alloc (.cells #[.int .i64 (r0 : Int), .int .i64 (c0 : Int)] 58)) b n L := hM1.later ((Below.refl _ w1).alloc (Nat.le_refl _) _)
  go_wp2_with (first | (at_delete; refine wpList_spot_del rfl _ _ rfl b n L rfl hMa (r0, c0) rfl hOK ?_; intro w2 hM2 ht2))
  have hown2 : Own2 w2 w1.heap.size (.slice (some ⟨w1.heap.size, 0, none⟩) 1 1) [(r0, c0)] := (Own2.one w1 w1.heap.size (r0, c0) (Nat.le_refl _)).touch ht2 (fun j hj => by simp [Value.ownBlock] at hj; omega)
  have ht02 : Touch b w w2 := ((Touch.of hb01).trans (Touch.of ((Below.refl w1.heap.size w1).alloc (Nat.le_refl _) _))).trans ht2
  have hGb : w2.heap[w.heap.size]? = some (.cells #[.int .i64 W, .int .i64 H, .slice a n0 cap, .bool J] 50 (0, 0)) := (ht2.block _ (by simp; omega) (by simp; omega)).trans ((Below.heap_alloc w1 _ _ (by omega)).trans hG1)
  clear hMa hM1 hG1 hb01
  go_loopw [7, 8] (fun v i wr => ∃ (G : List (Nat × Nat)) (k : Nat), i = .int .i64 k ∧ k ≤ G.length ∧ Own2 wr w1.heap.size v G ∧ G.Nodup ∧ Hid ((r0, c0) ∈ G) ∧ Hid (∀ p, p ∈ G → p ∈ L ∧ Conn (geoOf J W H) L (r0, c0) p) ∧ Hid (∀ j, (h : j < G.length) → j < k → ∀ q, q ∈ L → nbS (geoOf J W H) G[j] q = true → q ∈ G) ∧ Spots wr b n (L.filter (fun p => decide (p ∉ G))) ∧ Hid (wr.heap[w.heap.size]? = some (.cells #[.int .i64 W, .int .i64 H, .slice a n0 cap, .bool J] 50 (0, 0))) ∧ Touch b w wr) (fun _ i _ => 64 - (intOf i).toNat)
  case atStart =>
    refine ⟨[(r0, c0)], 0, rfl, by simp, hown2, by simp, Lib.hid (by simp), Lib.hid (fun p hp => ?_), Lib.hid (fun j _ hj => absurd hj (by omega)), ?_, Lib.hid hGb, ht02⟩
    · rw [List.mem_singleton] at hp
      rw [hp]
      exact ⟨hcL, .base⟩
    · have e : L.filter (fun p => decide (p ∉ [(r0, c0)])) = L.filter (fun p => decide (p ≠ (r0, c0))) := List.filter_congr (fun p _ => by simp)
      rw [e]
      exact hM2
  case round =>
    obtain ⟨G, k, rfl, hk, hown, hGn, hcG, hGL, hcl, hM, hGr, ht⟩ := hrel
    obtain ⟨va, vc, rfl⟩ := hown.shape
    have hGle := nodup_sub hGn (fun p hp => (hGL.out p hp).1)
    by_cases hlt : k < G.length
    · obtain ⟨g, rfl, hz0, hz1⟩ := hown.at k hlt
      have hsL := hGL.out _ (List.getElem_mem hlt)
      have hs64 := hL _ hsL.1
      have hi64 : (k : Int) < 64 := by omega
      have e0 : ((0 : Nat) : Int) + (k : Int) * 2 = ((k * 2 : Nat) : Int) := by omega
      have hLf := fun p (hp : p ∈ L.filter (fun p => decide (p ∉ G))) => hL p (List.mem_filter.1 hp).1
      have hlf := Nat.le_trans (List.length_filter_le (fun p => decide (p ∉ G)) L) hl
      have htn := fun w h => takeNearJ_any (J := J) W H a n0 cap b n _ G[k] w h hs64 hLf hlf hJ
      have hGr0 := hGr.out
      have hf0 := cell_of_block hGr0 0
      have hf1 := cell_of_block hGr0 1
      have hf2 := cell_of_block hGr0 2
      have hf3 := cell_of_block hGr0 3
      simp at hf0 hf1 hf2 hf3
      clear hGr0
      have hgw := hown.lt g rfl
      have hwsz := hbl
      go_wp2_with fail
      have hdr : Below wr.heap.size wr wr.drew := (Below.refl _ wr).drew
      have hMd : Spots wr.drew b n (L.filter (fun p => decide (p ∉ G))) := hM
      have hownd : Own2 wr.drew w1.heap.size (.slice (some ⟨g, 0, none⟩) G.length vc) G := hown
      have hGrd : Hid (wr.drew.heap[w.heap.size]? = some (.cells #[.int .i64 W, .int .i64 H, .slice a n0 cap, .bool J] 50 (0, 0))) := hGr.out
      have htd : Touch b w wr.drew := ht.trans (Touch.of hdr)
      have hst := fun (N : List (Nat × Nat)) (h1 : N.Nodup) (h2 : ∀ p, p ∈ N ↔ p ∈ L.filter (fun p => decide (p ∉ G)) ∧ nbS (geoOf J W H) G[k] p = true) => group_step (V := geoOf J W H) (N := N) (L := L) (s := G[k]) hGn h1 h2
      have HST := Lib.hid hst
      have HTN := Lib.hid htn
      clear hst htn
      go_region_law (first
        | (refine step_app2n rfl _ _ (by rfl) w1.heap.size _ G (by rfl) (hownd.touch ht3 (fun j hj => by simp [Value.ownBlock] at hj; omega)) a3 _ c3 wr.heap.size N (by rfl) hN3 (by have := nodup_sub hNn (fun p hp => ((hNm p).1 hp).1); omega) (by have := ht3.size; simp at this; omega) ?_; intro v4 w4 hown4 hg4)
        | (go_simp; go_at_call 95; refine (HTN.out _ (by exact hMd)).mono ?_; rintro e w3 ⟨a3, c3, N, rfl, hN3, hNn, hNm, hM3, ht3⟩))
      all_goals
        have hst := HST.out N hNn hNm
        have hGr3 := (ht3.block _ (block_lt hGrd.out) (by simp; omega)).trans hGrd.out
        have htt := htd.trans ht3
        have hs3 := ht3.size
        have hNle := nodup_sub hNn (fun p hp => ((hNm p).1 hp).1)
        go_wp2_with fail
        have hg4' : w3.grownBy w4 (some g) := hg4
        go_roundw
        case rel =>
          refine ⟨G ++ N, k + 1, by go_num, by rw [List.length_append]; omega, hown4, hst.1, Lib.hid (List.mem_append_left _ hcG.out), Lib.hid (fun p hp => ?_), Lib.hid (fun j hj hjk q hq hnb => ?_), ?_, Lib.hid ((hg4'.block _ (block_lt hGr3) (by simp; omega)).trans hGr3), htt.step hg4' (by omega)⟩
          · rcases List.mem_append.1 hp with h | h
            · exact hGL.out p h
            · have h2 := (hNm p).1 h
              have h3 := (List.mem_filter.1 h2.1).1
              exact ⟨h3, .step hsL.2 h3 h2.2⟩
          · rw [List.mem_append]
            by_cases hjk2 : j < k
            · rw [List.getElem_append_left (by omega)] at hnb
              exact .inl (hcl.out j (by omega) hjk2 q hq hnb)
            · obtain rfl : j = k := by omega
              rw [List.getElem_append_left hlt] at hnb
              by_cases hqG : q ∈ G
              · exact .inl hqG
              · exact .inr ((hNm q).2 ⟨List.mem_filter.2 ⟨hq, by simpa using hqG⟩, hnb⟩)
          · rw [← hst.2]
            exact hM3.grown hg4' (by simp; omega)
        case measure => simp [intOf]; omega
    · obtain rfl : k = G.length := by omega
      have hcomp : Hid (∀ p, p ∈ G ↔ Conn (geoOf J W H) L (r0, c0) p) := fun p => ⟨fun h => (hGL.out p h).2, fun h => conn_closed hcG.out (fun p hp q hq hnb => by
        obtain ⟨j, hj, rfl⟩ := List.getElem_of_mem hp
        exact hcl.out j hj hj q hq hnb) p h⟩
      clear hlt hk
      generalize wr = wA at *
      have hb5 : Below wA.heap.size wA wA := Below.refl _ _
      have hGl64 : G.length ≤ 64 := Nat.le_trans hGle hl
      have hg64 := fun p (hp : p ∈ G) => hL p (hGL.out p hp).1
      have hglt := hown.lt
      have hGrl := block_lt hGr.out
      go_wp2_with fail
      go_loopw [9, 37] (fun v i w5 => ∃ k : Nat, k ≤ G.length ∧ i = .int .i64 k ∧ Owns w5 wA.heap.size 3 v (nats ((G.take k).map fun p => p.1 * W + p.2)) ∧ Below wA.heap.size wA w5) (fun _ i _ => G.length - (intOf i).toNat)
      case atStart => exact ⟨0, Nat.zero_le _, rfl, Owns.nil _ _ _, hb5⟩
      case round =>
        obtain ⟨k, hk, rfl, hcs, hb6⟩ := hrel
        have s6 := hb6.size
        obtain ⟨v6a, v6c, hv6⟩ := hcs.shape
        rw [show (nats ((G.take k).map fun p => p.1 * W + p.2)).length = k by simp; omega] at hv6
        subst hv6
        by_cases hlt : k < G.length
        · have hown6 := hown.below (fun j hj => (hglt j hj).2) hb6
          obtain ⟨g, rfl, hz0, hz1⟩ := hown6.at k hlt
          have hp64 := hg64 _ (List.getElem_mem hlt)
          have hGr6 := (hb6.block _ hGrl).trans hGr.out
          have hTk := Lib.hid (show (G.take (k + 1)).map (fun p => p.1 * W + p.2) = (G.take k).map (fun p => p.1 * W + p.2) ++ [G[k].1 * W + G[k].2] by rw [List.take_succ_eq_append_getElem hlt, List.map_append]; rfl)
          have hGrl6 := block_lt hGr6
          have hf0 := cell_of_block hGr6 0
          have hf1 := cell_of_block hGr6 1
          have hf2 := cell_of_block hGr6 2
          have hf3 := cell_of_block hGr6 3
          simp at hf0 hf1 hf2 hf3
          have hy0 : ∀ o, (wr.alloc o).cell? ⟨w.heap.size, 0, none⟩ = some (.int .i64 W) := fun o => by rw [cell_new wr o w.heap.size hGrl6]; exact hf0
          have hy1 : ∀ o, (wr.alloc o).cell? ⟨w.heap.size, 1, none⟩ = some (.int .i64 H) := fun o => by rw [cell_new wr o w.heap.size hGrl6]; exact hf1
          have hy2 : ∀ o, (wr.alloc o).cell? ⟨w.heap.size, 2, none⟩ = some (.slice a n0 cap) := fun o => by rw [cell_new wr o w.heap.size hGrl6]; exact hf2
          have hcl6 : (nats ((G.take k).map fun p => p.1 * W + p.2)).length ≤ 64 := by simp; omega
          have hy3 : ∀ o, (wr.alloc o).cell? ⟨w.heap.size, 3, none⟩ = some (.bool J) := fun o => by rw [cell_new wr o w.heap.size hGrl6]; exact hf3
          generalize (G.take k).map (fun p => p.1 * W + p.2) = ck at *
          clear hGr6 hf0 hf1 hf2 hf3 hown6
          go_wp2_with fail
          have hba : Below wr.heap.size wr (wr.alloc (.cells #[.int .i64 (G[k].1 : Int), .int .i64 (G[k].2 : Int)] 58)) := (Below.refl _ _).alloc (Nat.le_refl _) _
          generalize wr.alloc (.cells #[.int .i64 (G[k].1 : Int), .int .i64 (G[k].2 : Int)] 58) = w7 at *
          refine (cellAt_any W H a n0 cap G[k].1 G[k].2 w7 hW8 hp64.1 hp64.2).mono ?_
          rintro e w8 ⟨rfl, hb8⟩
          have hb68 := hba.trans (hb8.mono hba.size)
          have hcs8 := hcs.later hb68
          have s8 := hb68.size
          clear hcs hy0 hy1 hy2 hy3 hz0 hz1
          go_wp2_with (at_builtin; refine wpList_app1 rfl _ _ _ rfl wA.heap.size _ _ _ elemInt _ _ _ _ rfl rfl rfl hcs8 rfl (by omega) (by omega) (by omega) ?_; intro v9 w9 hown9 hb9 hs9)
          rw [show ((G[k].1 : Int) * (W : Int) + (G[k].2 : Int)) = ((G[k].1 * W + G[k].2 : Nat) : Int) by simp, nats_snoc, ← hTk.out] at hown9
          have hbR := (hb6.trans (hb68.mono s6)).trans hb9
          go_roundw
          case rel => (first | exact ⟨k + 1, by omega, by go_num, hown9, hbR⟩ | ((repeat apply Exists.intro); exact ⟨⟨k + 1, by omega, by go_num, hown9, hbR⟩, rfl⟩))
          case measure => simp [intOf]; omega
        · obtain rfl : k = G.length := by omega
          rw [List.take_length] at hcs
          have hso := fun w h => sort_own (.slice v6a G.length v6c) ((G.map fun p => p.1 * W + p.2).map Int.ofNat) wA.heap.size w h (by simp; omega)
          have hcs' : Owns wr wA.heap.size 3 (.slice v6a G.length v6c) (ints ((G.map fun p => p.1 * W + p.2).map Int.ofNat)) := hcs
          go_wp2_with fail
          refine (hso _ hcs').mono ?_
          rintro e w9 ⟨rfl, hown9, hb9⟩
          have hxn := cells_nodup hGn (fun p hp => hLW p (hGL.out p hp).1)
          have hxl : ∀ x ∈ G.map (fun p => p.1 * W + p.2), x < 1000 := fun x hx => by
            obtain ⟨p, hp, rfl⟩ := List.mem_map.1 hx
            have h1 := hg64 p hp
            have h2 : p.1 * W ≤ 64 * 8 := Nat.mul_le_mul h1.1 hW8
            omega
          have hpm := sortM_perm hxn hxl
          rw [mergeSort_nats hxn hxl] at hown9
          have hlenR : (sortM 1000 (G.map fun p => p.1 * W + p.2)).length = G.length := by rw [hpm.length_eq, List.length_map]
          have hrs := sortM_rise 1000 (G.map fun p => p.1 * W + p.2)
          have hmem : ∀ x, x ∈ sortM 1000 (G.map fun p => p.1 * W + p.2) ↔ ∃ p : Nat × Nat, p ∈ G ∧ x = p.1 * W + p.2 := fun x => by
            rw [hpm.mem_iff, List.mem_map]
            exact ⟨fun ⟨p, hp, e⟩ => ⟨p, hp, e.symm⟩, fun ⟨p, hp, e⟩ => ⟨p, hp, e.symm⟩⟩
          generalize sortM 1000 (G.map fun p => p.1 * W + p.2) = R at *
          have HR := Lib.hid hlenR
          have hbA : Below wA.heap.size wA w9 := hb6.trans hb9
          clear hlenR hpm hso hcs hcs'
          have hsA := ht.size
          go_wp2_with fail
          go_ret
          refine ⟨v6a, v6c, G, R, by rw [HR.out]; rfl, ?_, hrs, hmem, fun p => by rw [HCS.out]; exact hcomp.out p, fun p hp => (hGL.out p hp).1, hM.later hbA, ht.trans (Touch.of hbA)⟩
          rw [HR.out]
          exact Owns.mono hown9 (by omega)
end Go.Proofs.YtndmkbkmfonefabDoor
