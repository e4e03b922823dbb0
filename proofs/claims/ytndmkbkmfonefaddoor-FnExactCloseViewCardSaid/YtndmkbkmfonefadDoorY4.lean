/- Opening: a click on a cell, by the program. -/
import Derived.Test.YtndmkbkmfonefadDoorY3
import Derived.StillTailTactics
import Derived.Maps.AppendAt
import Derived.WalkMore
import Derived.Deep.AppendLies
import Derived.Deep.RegionLaw
import Derived.Outline
namespace Go.Proofs.YtndmkbkmfonefadDoor
open Go.RowKit

theorem At.ofNone {w : World} {xs : List Value} (h : At w none xs) : xs = [] := by
  cases xs with
  | nil => rfl
  | cons x r =>
    obtain ⟨b, off, h, _⟩ := h 0 (by simp)
    cases h

/-- append of a whole row, nil or not, to a row that the call owns. -/
theorem run_appA {P : Program} (w : World) (B t ty e bytes : Nat) (z : Value) (E : Elem P t e z bytes) (v : Value) (xs : List Value) (hown : Owns w B e v xs)
    (A : Option Addr) (c : Nat) (news : List Value) (hat : At w A news) (h1 : ∀ u ∈ news, u.oneCell' = true) (hlen : (xs.length + news.length) * bytes ≤ 140737488355328) (hlen' : xs.length + news.length < 1099511627776) (hB : B ≤ w.heap.size) :
    ∃ v' w', (Builtin.append_ #[t, t] ty #[v, .slice A news.length c]).run P w = .ok v' w' ∧ Owns w' B e v' (xs ++ news) ∧ Below B w w' := by
  obtain ⟨i, hi, hz, hsz, hby⟩ := E.info
  cases A with
  | none =>
    obtain rfl := hat.ofNone
    refine ⟨v, w, ?_, by simpa using hown, Below.refl _ _⟩
    rcases hown.2 with ⟨rfl, _⟩ | ⟨g, cap, cur, rfl, _, _, hnc, _⟩
    · simp [Builtin.append_, run_underlying E.und, sizeOf, typeInfo, hi, Builtin.lenOf, Builtin.firstCells]
    · simp [Builtin.append_, run_underlying E.und, sizeOf, typeInfo, hi, Builtin.lenOf, Builtin.firstCells, hnc, storeCells]
  | some ad =>
    have hnews : ∀ j u, news[j]? = some u → w.cell? (ad.add j) = some u := by
      intro j u hu
      obtain ⟨hj, rfl⟩ := List.getElem?_eq_some_iff.1 hu
      obtain ⟨b, off, hab, hc⟩ := hat j hj
      obtain rfl : ad = ⟨b, off, none⟩ := by simpa using hab
      rw [Addr.add_lit]
      exact hc
    obtain ⟨v', w', hr, h2, h3, _⟩ := run_append_own (P := P) w B t ty e i z 1 bytes E.und hi hz hsz hby E.one (by decide) v xs.length xs hown ad news.length c news (by simp) hnews h1 (by unfold maxLen; omega) hlen hB
    exact ⟨v', w', hr, by unfold Owns; rw [List.length_append]; exact h2, (Below.refl B w).grown h3 hB (fun k hk => (Owns.lt hown k hk).1)⟩
theorem wpList_appA {P : Program} {ops : Array Oper} {rest : List Oper} {o : Oper} {a : Act} {Q : Exit → Act → World → Prop} {w : World} (hgd : o.guard = none) (s x : Operand) (t : TypeId)
    (ho : o.op = .call { callee := .builtin .append, args := #[s, x], argTypes := #[t, t] })
    (B e bytes : Nat) (z : Value) (E : Elem P t e z bytes) (v : Value) (xs : List Value) (hs : a.eval s = v) (hown : Owns w B e v xs) (A : Option Addr) (n c : Nat) (news : List Value) (hx : a.eval x = .slice A n c) (hn : news.length = n) (hat : At w A news) (h1 : ∀ u ∈ news, u.oneCell' = true)
    (hlen : (xs.length + news.length) * bytes ≤ 140737488355328) (hlen' : xs.length + news.length < 1099511627776) (hB : B ≤ w.heap.size)
    (h : ∀ v' w', Owns w' B e v' (xs ++ news) → Below B w w' → wpList P ops Q rest (a.put o.dst v') w') : wpList P ops Q (o :: rest) a w := by
  subst hn
  refine wpList_plain hgd fun K hK => ?_
  obtain ⟨v', w', hrun, h2, h3⟩ := run_appA (P := P) w B t o.type e bytes z E v xs hown A c news hat h1 hlen hlen' hB
  unfold Oper.wp execOp
  simp only [ho, resolve, invoke, builtin, Sem.run_bind, Sem.run_pure, Result.andThen_ok, List.map_toArray, List.map_cons, List.map_nil, hs, hx, hrun]
  exact hK _ _ (h v' w' h2 h3)
theorem step_appA {P : Program} {ops : Array Oper} {o : Oper} {a : Act} {K : Act → World → Prop} {Q : Exit → Act → World → Prop} {S : Prop} {w : World} (hgd : o.guard = none) (s x : Operand) (t : TypeId)
    (ho : o.op = .call { callee := .builtin .append, args := #[s, x], argTypes := #[t, t] })
    (B e bytes : Nat) (z : Value) (E : Elem P t e z bytes) (v : Value) (xs : List Value) (hs : a.eval s = v) (hown : Owns w B e v xs) (A : Option Addr) (n c : Nat) (news : List Value) (hx : a.eval x = .slice A n c) (hn : news.length = n) (hat : At w A news) (h1 : ∀ u ∈ news, u.oneCell' = true)
    (hlen : (xs.length + news.length) * bytes ≤ 140737488355328) (hlen' : xs.length + news.length < 1099511627776) (hB : B ≤ w.heap.size)
    (h : ∀ v' w', Owns w' B e v' (xs ++ news) → Below B w w' → K (a.put o.dst v') w') :
    if Region.wanted o (yielded ops a.tmps) = true then Oper.wp P o a w K Q else S := by
  subst hn
  have hw : Region.wanted o (yielded ops a.tmps) = true := by simp [Region.wanted, hgd]
  rw [if_pos hw]
  obtain ⟨v', w', hrun, h2, h3⟩ := run_appA (P := P) w B t o.type e bytes z E v xs hown A c news hat h1 hlen hlen' hB
  unfold Oper.wp execOp
  simp only [ho, resolve, invoke, builtin, Sem.run_bind, Sem.run_pure, Result.andThen_ok, List.map_toArray, List.map_cons, List.map_nil, hs, hx, hrun]
  exact h v' w' h2 h3
theorem nats_one (xs : List Nat) : ∀ u ∈ nats xs, u.oneCell' = true := by
  intro u hu
  simp only [nats, ints, List.map_map, List.mem_map] at hu
  obtain ⟨x, _, rfl⟩ := hu
  rfl
theorem nats_append (xs ys : List Nat) : nats xs ++ nats ys = nats (xs ++ ys) := by simp [nats, ints]

theorem Owns.one (w : World) (B e : Nat) (x : Value) (hB : B ≤ w.heap.size) : Owns (w.alloc (.cells #[x] e)) B e (.slice (some ⟨w.heap.size, 0, none⟩) 1 1) [x] := by
  refine ⟨by simp, .inr ⟨w.heap.size, 1, #[x], by simp, hB, heap_alloc_new w _, by simp, by simp [maxLen], by simp, by simp⟩⟩

/-- Has a cell the number 0? -/
def zeroB (cells : List UInt8) (W : Geo) (c : Nat) : Bool := numM cells W c == 0

set_option maxRecDepth 100000 in
set_option maxHeartbeats 3200000 in
theorem clickJ_any {J : Bool} (W H : Nat) (a : Option Addr) (cells : List UInt8) (cap : Nat) (b : Nat) (L : List Nat) (f : Nat) (w : World) (hat : At w a (byts cells)) (hM : Marks w b L) (hL : L.length ≤ 1000000) (hW : 1 ≤ W) (h64 : cells.length ≤ 64) (hf : f < cells.length) (hJ : J = true → (1 ≤ W ∧ W ≤ 1048576) ∧ (1 ≤ H ∧ H ≤ 1048576)) :
    Calls Tryd.prog 46 #[.agg #[.int .i64 W, .int .i64 H, .slice a cells.length cap, .bool J], .map (some b), .int .i64 f] w fun e w' => e = .returned (.tuple #[]) ∧
      Marks w' b (L ++ bfs (nearM (geoOf J W H) cells.length) (zeroB cells (geoOf J W H)) L cells.length 0 [f]) ∧ Touch b w w' := by
  have hbl := hM.lt
  have hw0 : Below w.heap.size w (w.alloc (.cells #[.int .i64 W, .int .i64 H, .slice a cells.length cap, .bool J] 45)) := (Below.refl _ _).alloc (Nat.le_refl _) _
  have hG0 : (w.alloc (.cells #[.int .i64 W, .int .i64 H, .slice a cells.length cap, .bool J] 45)).heap[w.heap.size]? = some (.cells #[.int .i64 W, .int .i64 H, .slice a cells.length cap, .bool J] 45 (0, 0)) := heap_alloc_new w _
  have hs0 : (w.alloc (.cells #[.int .i64 W, .int .i64 H, .slice a cells.length cap, .bool J] 45)).heap.size = w.heap.size + 1 := by simp
  go_enter Tryd.func46, Tryd.ntmps46
  go_wp2_with fail
  generalize w.alloc (.cells #[.int .i64 W, .int .i64 H, .slice a cells.length cap, .bool J] 45) = w0 at *
  have HS0 := Lib.hid hs0
  have HG0 := Lib.hid hG0
  clear hs0 hG0
  have hM0 : Marks w0 b L := hM.later hw0
  have hat0 : At w0 a (byts cells) := hat.later rfl hw0
  go_step3
  go_wp2_with (at_mapUpdate; refine wpList_mark_put rfl _ _ _ rfl b _ rfl hM0 _ rfl (by omega) rfl (by omega) ?_; intro w2 hM2 ht2)
  go_step3
  go_wp2_with fail
  have hs2 := ht2.size
  have hown0 : Owns (w2.alloc (.cells #[.int .i64 (f : Int)] 3)) (w.heap.size + 1) 3 (.slice (some ⟨w2.heap.size, 0, none⟩) 1 1) (nats [f]) := Owns.one w2 _ _ _ (by have := HS0.out; omega)
  have hb3 : Below w2.heap.size w2 (w2.alloc (.cells #[.int .i64 (f : Int)] 3)) := (Below.refl _ _).alloc (Nat.le_refl _) _
  have hM3 := hM2.later hb3
  have ht3 : Touch b w0 (w2.alloc (.cells #[.int .i64 (f : Int)] 3)) := ht2.trans (Touch.of hb3)
  generalize w2.alloc (.cells #[.int .i64 (f : Int)] 3) = w3 at *
  have hnlt : ∀ y, ∀ x ∈ nearM (geoOf J W H) cells.length y, x < cells.length := fun y x hx => nearM_lt (geoOf J W H) cells.length y x hx
  have HN := Lib.hid hnlt
  have hBq0 : Hid (Bq (nearM (geoOf J W H) cells.length) (zeroB cells (geoOf J W H)) L cells.length f 0 [f]) := Bq.start hf
  have hwB := Lib.hid hw0
  clear hnlt hs2 hb3 hM2 ht2 hw0
  go_loopw [6, 7] (fun v i wr => ∃ (k : Nat) (q : List Nat), k ≤ q.length ∧ q.length ≤ cells.length ∧ i = .int .i64 k ∧ Owns wr (w.heap.size + 1) 3 v (nats q) ∧ Marks wr b (L ++ q) ∧ Touch b w0 wr ∧ Hid (Bq (nearM (geoOf J W H) cells.length) (zeroB cells (geoOf J W H)) L cells.length f k q) ∧ Hid (bfs (nearM (geoOf J W H) cells.length) (zeroB cells (geoOf J W H)) L cells.length 0 [f] = bfs (nearM (geoOf J W H) cells.length) (zeroB cells (geoOf J W H)) L (cells.length - k) k q)) (fun _ i _ => cells.length - (intOf i).toNat)
  case atStart => exact ⟨0, [f], by simp, by simp; omega, rfl, hown0, hM3, ht3, hBq0, rfl⟩
  case round =>
    obtain ⟨k, q, hkq, hqn, rfl, hown, hMr, htr, HB, HR⟩ := hrel
    obtain ⟨a1, cap1, hv⟩ := hown.shape
    simp only [nats_length] at hv
    subst hv
    by_cases hend : k < q.length
    · have hd : ((k : Int) == (q.length : Int)) = false := by simp; omega
      have hGr : wr.heap[w.heap.size]? = some (.cells #[.int .i64 W, .int .i64 H, .slice a cells.length cap, .bool J] 45 (0, 0)) := by rw [htr.block _ (by have := HS0.out; omega) (by simp; omega)]; exact HG0.out
      have hf0 := cell_of_block hGr 0
      have hf1 := cell_of_block hGr 1
      have hf2 := cell_of_block hGr 2
      have hf3 := cell_of_block hGr 3
      simp at hf0 hf1 hf2 hf3
      obtain ⟨g, off, rfl, hq⟩ := nats_at hown.at k hend
      have hqk : q[k] < cells.length := HB.out.lt _ (List.getElem_mem hend)
      go_wp2_with fail
      go_still_tail 5, (by kernel_rfl)
      change wpList _ _ _ _ _ wr.drew
      have hownd : Owns wr.drew (w.heap.size + 1) 3 (.slice (some ⟨g, off, none⟩) q.length cap1) (nats q) := hown
      have hMd : Marks wr.drew b (L ++ q) := hMr
      have htd : Touch b w0 wr.drew := htr.trans (Touch.of (⟨rfl, rfl, rfl, Nat.le_refl _, fun _ _ => rfl⟩))
      generalize wr.drew = wd at *
      clear hGr hf0 hf1 hf2 hf3 hq hown hMr htr
      go_wp2_with fail
      refine (numberJ_any W H a cells cap q[k] _ (hat0.touch htd hM0.nocells) hW hqk h64 hJ).mono ?_
      rintro e w4 ⟨rfl, hb4⟩
      have hown4 := hownd.later hb4
      have hM4 := hMd.later hb4
      have ht4 := htd.trans (Touch.of hb4)
      clear hownd hMd htd hb4
      by_cases hz : zeroB cells (geoOf J W H) q[k] = true
      · have hd2 : ((numM cells (geoOf J W H) q[k] : Int) == 0) = true := by simpa [zeroB] using hz
        have Hz := Lib.hid hz
        clear hz
        have hG4 : w4.heap[w.heap.size]? = some (.cells #[.int .i64 W, .int .i64 H, .slice a cells.length cap, .bool J] 45 (0, 0)) := by rw [ht4.block _ (by have := HS0.out; omega) (by simp; omega)]; exact HG0.out
        have hf0 := cell_of_block hG4 0
        have hf1 := cell_of_block hG4 1
        have hf2 := cell_of_block hG4 2
        have hf3 := cell_of_block hG4 3
        simp at hf0 hf1 hf2 hf3
        obtain ⟨g', off', he', hq4⟩ := nats_at hown4.at k hend
        simp only [Option.some.injEq, Addr.mk.injEq, and_true] at he'
        obtain ⟨rfl, rfl⟩ := he'
        go_wp2_with fail
        have hownd : Owns w4.drew (w.heap.size + 1) 3 (.slice (some ⟨g, off, none⟩) q.length cap1) (nats q) := hown4
        have hMd : Marks w4.drew b (L ++ q) := hM4
        have htd : Touch b w0 w4.drew := ht4.trans (Touch.of (⟨rfl, rfl, rfl, Nat.le_refl _, fun _ _ => rfl⟩))
        have hbd := hMd.lt
        have hs5 := htd.size
        have hol : (addB (L ++ q) [] (nearM (geoOf J W H) cells.length q[k])).length ≤ cells.length := by
          have h1 := addB_len (L ++ q) (nearM (geoOf J W H) cells.length q[k]) []
          have h2 := nearM_le (geoOf J W H) cells.length q[k]
          simp at h1
          omega
        have hll : (L ++ q).length ≤ 1048576 := by simp; omega
        have HOL := Lib.hid hol
        clear hown4 hM4 ht4 hol
        go_region_law (first
          | (refine step_appA rfl _ _ _ (by rfl) (w.heap.size + 1) _ _ _ elemInt _ (nats q) (by rfl) (hownd.touch ht5 (by omega)) _ _ _ (nats (addB (L ++ q) [] (nearM (geoOf J W H) cells.length q[k]))) (by rfl) (nats_length _) hown5.at (nats_one _) (by have := HOL.out; simp; omega) (by have := HOL.out; simp; omega) (by have := HS0.out; have := ht5.size; omega) ?_; intro v7 w7 hown7 hb7)
          | (go_simp; go_at_call 78; refine (openNearJ_any W H a cells.length cap b (L ++ q) q[k] _ (by exact hMd) hll hW (by omega) h64 hJ).mono ?_; rintro e w5 ⟨a5, cap5, rfl, hown5, hM5, ht5⟩))
        all_goals
          have ht6 := htd.trans ht5
          rw [nats_append] at hown7
          have hst : Hid (addB L q (nearM (geoOf J W H) cells.length q[k]) = q ++ addB (L ++ q) [] (nearM (geoOf J W H) cells.length q[k])) := addB_from _ _ _
          have hnx : Hid (Bq (nearM (geoOf J W H) cells.length) (zeroB cells (geoOf J W H)) L cells.length f (k + 1) (q ++ addB (L ++ q) [] (nearM (geoOf J W H) cells.length q[k]))) := by
            have := HB.out.next HN.out hend
            rw [if_pos Hz.out, hst.out] at this
            exact this
          have hM7 : Marks w7 b (L ++ (q ++ addB (L ++ q) [] (nearM (geoOf J W H) cells.length q[k]))) := by rw [← List.append_assoc]; exact hM5.kept (by omega) hb7
          have ht7 : Touch b w0 w7 := ht6.then hb7 (by rw [HS0.out]; exact Nat.le_refl _)
          clear hM5 hb7 ht6 ht5 hown5 htd hMd hownd
          go_wp2_with fail
          go_roundw
          case rel => exact ⟨k + 1, _, by simp; omega, nodup_le hnx.out.nodup hnx.out.lt, by go_num, hown7, hM7, ht7, hnx, by rw [Hid, HR.out, show cells.length - k = (cells.length - (k + 1)) + 1 by omega, bfs, dif_pos hend, if_pos Hz.out, hst.out]⟩
          case measure => simp [intOf]; omega
      · have hd2 : ((numM cells (geoOf J W H) q[k] : Int) == 0) = false := by simpa [zeroB] using hz
        have Hz := Lib.hid hz
        clear hz
        go_wp2_with fail
        go_roundw
        case rel => exact ⟨k + 1, q, by omega, hqn, by go_num, hown4, hM4, ht4, by have := HB.out.next HN.out hend; rw [if_neg Hz.out] at this; exact this, by rw [Hid, HR.out, show cells.length - k = (cells.length - (k + 1)) + 1 by omega, bfs, dif_pos hend, if_neg Hz.out]⟩
        case measure => simp [intOf]; omega
    · obtain rfl : k = q.length := by omega
      go_wp2_with fail
      rw [Exit.noGoto_normal]
      go_end0
      exact ⟨rfl, by rw [HR.out, bfs_stop]; exact hMr, (Touch.of hwB.out).trans htr⟩
/-- The same where rows are not joined. -/
theorem click_any (W H : Nat) (a : Option Addr) (cells : List UInt8) (cap : Nat) (b : Nat) (L : List Nat) (f : Nat) (w : World) (hat : At w a (byts cells)) (hM : Marks w b L) (hL : L.length ≤ 1000000) (hW : 1 ≤ W) (h64 : cells.length ≤ 64) (hf : f < cells.length) :
    Calls Tryd.prog 46 #[.agg #[.int .i64 W, .int .i64 H, .slice a cells.length cap, .bool false], .map (some b), .int .i64 f] w fun e w' => e = .returned (.tuple #[]) ∧
      Marks w' b (L ++ bfs (nearM W cells.length) (zeroB cells W) L cells.length 0 [f]) ∧ Touch b w w' :=
  clickJ_any W H a cells cap b L f w hat hM hL hW h64 hf nofun
end Go.Proofs.YtndmkbkmfonefadDoor
