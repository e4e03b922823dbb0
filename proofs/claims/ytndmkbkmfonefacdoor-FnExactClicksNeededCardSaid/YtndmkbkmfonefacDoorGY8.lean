/- Y8, Y9, YA, laid as one text. -/
import Derived.Test.YtndmkbkmfonefacDoorGY1
import Derived.Test.YtndmkbkmfonefacDoorT7
import Derived.Outline
import Derived.Test.YtndmkbkmfonefacDoorGN1

/- Opening: the cells that a click opens, by the model. -/
namespace Go.Proofs.YtndmkbkmfonefacDoor
open Go.RowKit

theorem hasI_nat (xs : List Nat) (n : Nat) : hasI (xs.map Int.ofNat) (n : Int) = decide (n ∈ xs) := by
  rw [Bool.eq_iff_iff]
  simp only [hasI, List.any_eq_true, List.mem_map, beq_iff_eq, decide_eq_true_eq]
  constructor
  · rintro ⟨x, ⟨y, hy, rfl⟩, h⟩
    have : y = n := Int.ofNat.inj h
    rwa [← this]
  · intro h
    exact ⟨(n : Int), ⟨n, h, rfl⟩, rfl⟩
/-- l1Has of the model over numbers. -/
theorem l1HasN_any (xs : List Nat) (n : Nat) (a : Option Addr) (cap : Nat) (w : World) (hat : At w a (nats xs)) (hl : xs.length ≤ 1048576) :
    Calls Tryd.prog 42 #[.slice a xs.length cap, .int .i64 n] w fun e w' => e = .returned (.bool (decide (n ∈ xs))) ∧ w = w' := by
  have h := l1Has_any (xs.map Int.ofNat) (n : Int) a cap w hat (by simpa using hl)
  rw [hasI_nat, List.length_map] at h
  exact h

theorem Owns.empty (w : World) (B e : Nat) (hB : B ≤ w.heap.size) : Owns (w.alloc (.cells #[] e)) B e (.slice (some ⟨w.heap.size, 0, none⟩) 0 0) [] := by
  refine ⟨by simp, .inr ⟨w.heap.size, 0, #[], by simp, hB, heap_alloc_new w _, by simp, by simp [maxLen], by simp, by simp⟩⟩
theorem At.take {w : World} {a : Option Addr} {xs : List Value} (h : At w a xs) (k : Nat) : At w a (xs.take k) := by
  intro j hj
  have hj' : j < xs.length := by simp at hj; omega
  obtain ⟨b, off, ha, hc⟩ := h j hj'
  exact ⟨b, off, ha, by rw [hc]; simp⟩
theorem At.drop {w : World} {g off : Nat} {xs : List Value} (h : At w (some ⟨g, off, none⟩) xs) (k : Nat) : At w (some ⟨g, off + k, none⟩) (xs.drop k) := by
  intro j hj
  have hj' : k + j < xs.length := by simp at hj; omega
  obtain ⟨b, off', ha, hc⟩ := h (k + j) hj'
  simp only [Option.some.injEq, Addr.mk.injEq, and_true] at ha
  obtain ⟨rfl, rfl⟩ := ha
  exact ⟨g, off + k, rfl, by rw [Nat.add_assoc, hc]; simp⟩
theorem At.nil (w : World) (a : Option Addr) : At w a [] := by intro k hk; simp at hk
theorem nats_take (xs : List Nat) (k : Nat) : nats (xs.take k) = (nats xs).take k := by simp [nats, ints, List.map_take]
theorem nats_drop (xs : List Nat) (k : Nat) : nats (xs.drop k) = (nats xs).drop k := by simp [nats, ints, List.map_drop]

set_option maxRecDepth 100000 in
set_option maxHeartbeats 3200000 in
theorem l1Put_some (xs : List Nat) (x : Nat) (g cap : Nat) (B : Nat) (w : World) (hown : Owns w B 3 (.slice (some ⟨g, 0, none⟩) xs.length cap) (nats xs)) (hl : xs.length ≤ 1048576) (hcap : xs.length ≤ cap) (hcm : cap ≤ 9223372036854775807) (hB : B ≤ w.heap.size) :
    Calls Tryd.prog 74 #[.slice (some ⟨g, 0, none⟩) xs.length cap, .int .i64 (x : Int)] w fun e w' => ∃ v', e = .returned v' ∧ Owns w' B 3 v' (nats (putM xs x)) ∧ Below w.heap.size w w' ∧ (v' = .slice (some ⟨g, 0, none⟩) xs.length cap ∨ ∀ k, v'.ownBlock = some k → w.heap.size ≤ k) := by
  have hat := hown.at
  go_enter Tryd.func74, Tryd.ntmps74
  go_wp2_with fail
  go_loop [5] (fun i => ∃ k : Nat, k ≤ xs.length ∧ i = .int .i64 k ∧ Hid (putM xs x = xs.take k ++ putM (xs.drop k) x)) (fun i => xs.length - (intOf i).toNat)
  case atStart => exact ⟨0, Nat.zero_le _, rfl, by simp [Hid]⟩
  case round =>
    obtain ⟨k, hk, rfl, hR⟩ := hrel
    by_cases hlt : k < xs.length
    · obtain ⟨g', off', he', hc⟩ := nats_at hat k hlt
      simp only [Option.some.injEq, Addr.mk.injEq, and_true] at he'
      obtain ⟨rfl, rfl⟩ := he'
      rw [Nat.zero_add] at hc
      by_cases hx : xs[k] < x
      · have HX := Lib.hid hx
        go_wp2_with fail
        go_round
        case rel => exact ⟨k + 1, by omega, by go_num, by rw [Hid, hR.out, putM_step xs x k hlt HX.out]⟩
        case measure => simp [intOf]; omega
      · by_cases hx2 : xs[k] = x
        · have hd : ((xs[k] : Int) == (x : Int)) = true := by simp [hx2]
          have HX := Lib.hid hx2
          clear hx2
          go_wp2_with fail
          go_ret
          exact ⟨_, rfl, by rw [hR.out, putM_there xs x k hlt HX.out]; exact hown, Below.refl _ _, .inl rfl⟩
        · have hd : ((xs[k] : Int) == (x : Int)) = false := by simp; omega
          have HP := Lib.hid (putM_here xs x k hk (fun _ => by omega))
          have hb0 : Below w.heap.size w (w.alloc (.cells #[] 3)) := (Below.refl _ _).alloc (Nat.le_refl _) _
          go_wp2_with (first
            | (at_builtin; refine wpList_appA rfl (.tmp 34) (.tmp 37) _ rfl w.heap.size _ _ _ elemInt _ [] rfl (Owns.empty w w.heap.size 3 (Nat.le_refl _)) _ _ _ (nats (xs.take k)) rfl (by simp; omega) (by rw [nats_take]; exact (hat.later rfl hb0).take k) (nats_one _) (by simp; omega) (by simp; omega) (by simp) ?_; intro v1 w1 hown1 hb1)
            | (at_builtin; refine wpList_app1 rfl (.tmp 39) (.tmp 41) _ rfl w.heap.size _ _ _ elemInt _ _ _ _ rfl rfl rfl hown1 rfl (by simp; omega) (by have := hb1.size; simp at this; omega) (by simp; omega) ?_; intro v2 w2 hown2 hb2 hs2)
            | (at_builtin; refine wpList_appA rfl (.tmp 43) (.tmp 46) _ rfl w.heap.size _ _ _ elemInt _ _ rfl hown2 _ _ _ (nats (xs.drop k)) rfl (by simp) (by rw [nats_drop]; have hq := (hat.later rfl ((hb0.trans hb1).trans hb2)).drop k; rw [Nat.zero_add] at hq; exact hq) (nats_one _) (by simp; omega) (by simp; omega) (by have q1 := hb1.size; simp at q1; omega) ?_; intro v3 w3 hown3 hb3))
          go_ret
          refine ⟨v3, rfl, ?_, ((hb0.trans hb1).trans hb2).trans hb3, .inr fun k hk => (hown3.lt k hk).1⟩
          have e : [] ++ nats (xs.take k) ++ [Value.int .i64 (x : Int)] ++ nats (xs.drop k) = nats (putM xs x) := by
            rw [List.nil_append, nats_snoc, nats_append, hR.out, HP.out]
          rw [e] at hown3
          exact hown3.mono hB
    · obtain rfl : k = xs.length := by omega
      have HP := Lib.hid (putM_here xs x xs.length hk (fun h => absurd h (by omega)))
      have hb0 : Below w.heap.size w (w.alloc (.cells #[] 3)) := (Below.refl _ _).alloc (Nat.le_refl _) _
      clear hlt
      rcases Nat.eq_or_lt_of_le hcap with hcl | hcl
      all_goals
        try subst hcl
        go_wp2_with (first
          | (at_builtin; refine wpList_appA rfl (.tmp 34) (.tmp 37) _ rfl w.heap.size _ _ _ elemInt _ [] rfl (Owns.empty w w.heap.size 3 (Nat.le_refl _)) _ _ _ (nats xs) rfl (by simp) (hat.later rfl hb0) (nats_one _) (by simp; omega) (by simp; omega) (by simp) ?_; intro v1 w1 hown1 hb1)
          | (at_builtin; refine wpList_app1 rfl (.tmp 39) (.tmp 41) _ rfl w.heap.size _ _ _ elemInt _ _ _ _ rfl rfl rfl hown1 rfl (by simp; omega) (by have := hb1.size; simp at this; omega) (by simp; omega) ?_; intro v2 w2 hown2 hb2 hs2)
          | (at_builtin; refine wpList_appA rfl (.tmp 43) (.tmp 46) _ rfl w.heap.size _ _ _ elemInt _ _ rfl hown2 _ _ _ [] rfl (by simp) (At.nil _ _) (by simp) (by simp; omega) (by simp; omega) (by have q1 := hb1.size; simp at q1; omega) ?_; intro v3 w3 hown3 hb3))
        go_ret
        refine ⟨v3, rfl, ?_, ((hb0.trans hb1).trans hb2).trans hb3, .inr fun k hk => (hown3.lt k hk).1⟩
        have e : [] ++ nats xs ++ [Value.int .i64 (x : Int)] ++ [] = nats (putM xs x) := by
          rw [List.nil_append, nats_snoc, List.append_nil, hR.out, HP.out, List.take_length, List.drop_length, List.append_nil]
        rw [e] at hown3
        exact hown3.mono hB

set_option maxRecDepth 100000 in
set_option maxHeartbeats 1600000 in
theorem l1Put_none (x : Nat) (B : Nat) (w : World) (hB : B ≤ w.heap.size) :
    Calls Tryd.prog 74 #[.slice none 0 0, .int .i64 (x : Int)] w fun e w' => ∃ v', e = .returned v' ∧ Owns w' B 3 v' (nats (putM [] x)) ∧ Below w.heap.size w w' ∧ (v' = .slice none 0 0 ∨ ∀ k, v'.ownBlock = some k → w.heap.size ≤ k) := by
  have hb0 : Below w.heap.size w (w.alloc (.cells #[] 3)) := (Below.refl _ _).alloc (Nat.le_refl _) _
  go_enter Tryd.func74, Tryd.ntmps74
  go_wp2_with fail
  go_loop [5] (fun i => i = .int .i64 0) (fun _ => 0)
  case atStart => exact rfl
  case round =>
    subst hrel
    go_wp2_with (first
      | (at_builtin; refine wpList_appA rfl (.tmp 34) (.tmp 37) _ rfl w.heap.size _ _ _ elemInt _ [] rfl (Owns.empty w w.heap.size 3 (Nat.le_refl _)) _ _ _ [] rfl (by simp) (At.nil _ _) (by simp) (by simp) (by simp) (by simp) ?_; intro v1 w1 hown1 hb1)
      | (at_builtin; refine wpList_app1 rfl (.tmp 39) (.tmp 41) _ rfl w.heap.size _ _ _ elemInt _ _ _ _ rfl rfl rfl hown1 rfl (by simp) (by have := hb1.size; simp at this; omega) (by simp) ?_; intro v2 w2 hown2 hb2 hs2)
      | (at_builtin; refine wpList_appA rfl (.tmp 43) (.tmp 46) _ rfl w.heap.size _ _ _ elemInt _ _ rfl hown2 _ _ _ [] rfl (by simp) (At.nil _ _) (by simp) (by simp) (by simp) (by have q1 := hb1.size; simp at q1; omega) ?_; intro v3 w3 hown3 hb3))
    go_ret
    refine ⟨v3, rfl, ?_, ((hb0.trans hb1).trans hb2).trans hb3, .inr fun k hk => (hown3.lt k hk).1⟩
    have e : [] ++ [] ++ [Value.int .i64 (x : Int)] ++ [] = nats (putM [] x) := rfl
    rw [e] at hown3
    exact hown3.mono hB

/-- l1Put of the model. -/
theorem l1Put_any (xs : List Nat) (x : Nat) (v : Value) (B : Nat) (w : World) (hown : Owns w B 3 v (nats xs)) (hl : xs.length ≤ 1048576) (hB : B ≤ w.heap.size) :
    Calls Tryd.prog 74 #[v, .int .i64 (x : Int)] w fun e w' => ∃ v', e = .returned v' ∧ Owns w' B 3 v' (nats (putM xs x)) ∧ Below w.heap.size w w' ∧ (v' = v ∨ ∀ k, v'.ownBlock = some k → w.heap.size ≤ k) := by
  have h0 := hown
  rcases hown.2 with ⟨rfl, hn⟩ | ⟨g, cap, cur, rfl, _, _, hnc, hcm, _⟩
  · obtain rfl : xs = [] := by simpa [nats, ints] using hn
    exact l1Put_none x B w hB
  · rw [nats_length] at h0 hnc ⊢
    exact l1Put_some xs x g cap B w h0 hl hnc (by unfold maxLen at hcm; exact hcm) hB
end Go.Proofs.YtndmkbkmfonefacDoor

/- Opening: the search over zeros, by the model. -/
namespace Go.Proofs.YtndmkbkmfonefacDoor
open Go.RowKit

/-- Two values own no block in common. -/
def Apart (v u : Value) : Prop := ∀ k, v.ownBlock = some k → u.ownBlock ≠ some k
theorem Apart.fresh {w : World} {B e : Nat} {v u : Value} {xs : List Value} (h : Owns w B e v xs) (hu : ∀ k, u.ownBlock = some k → w.heap.size ≤ k) : Apart v u := by
  intro k hk hk2
  have h1 := (h.lt k hk).2
  have h2 := hu k hk2
  omega
theorem Apart.symm {v u : Value} (h : Apart v u) : Apart u v := fun k hk hk2 => h k hk2 hk

/-- append of one element to a row that the call owns, with what becomes of other rows. -/
theorem wpList_app1K {P : Program} {ops : Array Oper} {rest : List Oper} {o : Oper} {a : Act} {Q : Exit → Act → World → Prop} {w : World} (hgd : o.guard = none) (s x : Operand) (t : TypeId)
    (ho : o.op = .call { callee := .builtin .append, args := #[s, x], argTypes := #[t, t] })
    (B e bytes : Nat) (z : Value) (E : Elem P t e z bytes) (v : Value) (xs : List Value) (x0 : Value) (w0 : World) (hw : w = w0.alloc (.cells #[x0] e)) (hx1 : x0.oneCell' = true)
    (hs : a.eval s = v) (hown : Owns w0 B e v xs) (hx : a.eval x = .slice (some ⟨w0.heap.size, 0, none⟩) 1 1)
    (hlen : (xs.length + 1) * bytes ≤ 140737488355328) (hB : B ≤ w0.heap.size) (hlen' : xs.length < 1099511627776)
    (h : ∀ v' w', Owns w' B e v' (xs ++ [x0]) → Below B w0 w' → w0.heap.size < w'.heap.size → (∀ B' e' u ys, Owns w0 B' e' u ys → Apart v u → Owns w' B' e' u ys ∧ Apart v' u) → wpList P ops Q rest (a.put o.dst v') w') : wpList P ops Q (o :: rest) a w := by
  subst hw
  obtain ⟨i, hi, hz, hsz, hby⟩ := E.info
  refine wpList_plain hgd fun K hK => ?_
  obtain ⟨v', w', hrun, h2, h3, _, h5⟩ := run_append_own_at (P := P) (w0.alloc (.cells #[x0] e)) B t o.type e i z 1 bytes E.und hi hz hsz hby E.one (by decide) v xs.length xs (World.ownsRow.alloc hown _) ⟨w0.heap.size, 0, none⟩ 1 1 [x0] rfl (cell_one_new _ _ _) (by simpa using hx1) (by unfold maxLen; omega) hlen (by simp; omega)
  have hsz2 : w0.heap.size < w'.heap.size := by have := h3.size; simp at this; omega
  unfold Oper.wp execOp
  simp only [ho, resolve, invoke, builtin, Sem.run_bind, Sem.run_pure, Result.andThen_ok, List.map_toArray, List.map_cons, List.map_nil, hs, hx, hrun]
  refine hK _ _ (h v' w' (by simpa [Owns] using h2) (((Below.refl B w0).alloc hB _).grown h3 (by simp; omega) (fun k hk => (Owns.lt hown k hk).1)) hsz2 ?_)
  intro B' e' u ys hu hap
  refine ⟨World.ownsRow.kept (World.ownsRow.alloc hu _) h3 ?_, ?_⟩
  · cases hv : u.ownBlock with
    | none => exact .inl rfl
    | some k => exact .inr fun e => hap k e.symm hv
  · intro k hk hk2
    rcases h5 with h5 | h5
    · exact hap k (h5 ▸ hk) hk2
    · rw [h5] at hk
      have h6 := (Owns.lt hu k hk2).2
      simp at hk
      omega

set_option maxRecDepth 100000 in
set_option maxHeartbeats 800000 in
theorem opFree_any (l : List UInt8) (c : Int) (w : World) (hl : l.length ≤ 1048576) :
    Calls Tryd.prog 41 #[.string ⟨l.toArray⟩, .int .i64 c] w fun e w' => e = .returned (.bool (freeOK l c)) ∧ Below w.heap.size w w' := by
  by_cases hc : cellOK l c = true
  · have HC := Lib.hid hc
    obtain ⟨hg, k, rfl, hk⟩ := cellOK_yes hc
    have h64 := cells_le72 hg
    have hgc : gCells l = cellsM l := by rw [gCells, if_pos hg]
    have hF : Hid (freeOK l k = ((cellsM l)[k] == 46)) := by
      rw [Hid, freeOK, hgc, freeB_at _ k hk]
      rcases cells_sign hg _ (List.getElem_mem hk) with h | h <;> rw [h] <;> rfl
    have hd : Hid ((((cellsM l)[k].toNat : Int) == 46) = ((cellsM l)[k] == 46)) := byte_beq _ 46 (by omega)
    have hcc := boCell_any l k w hl
    rw [hc] at hcc
    have HCC := Lib.hid hcc
    have hcl := fun w => boCells_any l w hl
    have HCL := Lib.hid hcl
    generalize cellsM l = cells at *
    clear hc hg hgc hcc hcl
    go_enter Tryd.func41, Tryd.ntmps41
    go_wp2_with fail
    refine HCC.out.mono ?_
    rintro e w1 ⟨rfl, hb1⟩
    go_wp2_with fail
    refine (HCL.out _).mono ?_
    rintro e w2 ⟨rfl, rfl⟩
    go_wp2_with fail
    go_ret
    exact ⟨by rw [hF.out, ← hd.out]; rfl, hb1⟩
  · have hc' : cellOK l c = false := by simpa using hc
    have hF : Hid (freeOK l c = false) := by
      rw [Hid]
      cases hq : freeOK l c with
      | false => rfl
      | true =>
        obtain ⟨hg, k, rfl, hk, _⟩ := freeOK_yes hq
        rw [gCells, if_pos hg] at hk
        rw [cellOK, hg] at hc'
        simp [inB] at hc'
        omega
    have hcc := boCell_any l c w hl
    rw [hc'] at hcc
    have HCC := Lib.hid hcc
    clear hc hc' hcc
    go_enter Tryd.func41, Tryd.ntmps41
    go_wp2_with fail
    refine HCC.out.mono ?_
    rintro e w1 ⟨rfl, hb1⟩
    go_wp2_with fail
    go_ret
    exact ⟨by rw [hF.out]; rfl, hb1⟩
end Go.Proofs.YtndmkbkmfonefacDoor

/- Opening: the search over zeros, by the model, walked. -/
namespace Go.Proofs.YtndmkbkmfonefacDoor
open Go.RowKit

/-- boNear of the model, over numbers. -/
theorem boNearN_any (W H n c : Nat) (w : World) (hW : 1 ≤ W ∧ W ≤ 8) (hH : H ≤ 8) (hn : n = W * H) (hc : c < n) :
    Calls Tryd.prog 73 #[.int .i64 W, .int .i64 H, .int .i64 c] w fun e w' => ∃ a cap, e = .returned (.slice a (nearM W n c).length cap) ∧ Owns w' w.heap.size 3 (.slice a (nearM W n c).length cap) (nats (nearM W n c)) ∧ Below w.heap.size w w' := by
  subst hn
  have h64 : W * H ≤ 64 := Nat.mul_le_mul hW.2 hH
  have h := boNear_any W H c w hW hH (by omega)
  rw [near_eq W H c hW.2 hH hc, List.length_map] at h
  exact h

set_option maxRecDepth 100000 in
set_option maxHeartbeats 3200000 in
theorem opClick_any (l : List UInt8) (W H : Nat) (cells : List UInt8) (c : Nat) (w : World) (hl : l.length ≤ 1048576) (hB : Brd l W H cells) (hc : c < cells.length) :
    Calls Tryd.prog 44 #[.string ⟨l.toArray⟩, .int .i64 (c : Int)] w fun e w' => ∃ a cap, e = .returned (.slice a (opM cells W c).length cap) ∧ Owns w' w.heap.size 3 (.slice a (opM cells W c).length cap) (nats (opM cells W c)) ∧ Below w.heap.size w w' := by
  have hn64 := hB.n64
  have HS := Lib.hid hB.size
  have HC := Lib.hid hB.cs
  have HL := Lib.hid hB.len
  have hw1 := hB.w1
  have hw8 := hB.w8
  have hh8 := hB.h8
  have hnlt : ∀ y, ∀ x ∈ nearM W cells.length y, x < cells.length := fun y x hx => nearM_lt W cells.length y x hx
  have HN := Lib.hid hnlt
  have hBq0 : Hid (Bq (nearM W cells.length) (zeroB cells W) [] cells.length c 0 [c]) := Bq.start hc
  have HO : Hid (opM cells W c = sortM cells.length (bfs (nearM W cells.length) (zeroB cells W) [] cells.length 0 [c])) := rfl
  clear hB hnlt
  go_enter Tryd.func44, Tryd.ntmps44
  go_wp2_with fail
  refine (boSize_any l _ hl).mono ?_
  rintro e w1 ⟨rfl, hb1⟩
  rw [HS.out]
  go_wp2_with fail
  refine (boCells_any l _ hl).mono ?_
  rintro e w1' ⟨rfl, rfl⟩
  rw [HC.out]
  go_wp2_with fail
  have s1 := hb1.size
  have hb2 : Below w.heap.size w ((w1.alloc (.cells #[.int .i64 (c : Int)] 3)).alloc (.cells #[.int .i64 (c : Int)] 3)) := (hb1.alloc s1 _).alloc (by simp; omega) _
  have hown8 : Owns ((w1.alloc (.cells #[.int .i64 (c : Int)] 3)).alloc (.cells #[.int .i64 (c : Int)] 3)) w.heap.size 3 (.slice (some ⟨w1.heap.size, 0, none⟩) 1 1) (nats [c]) := (Owns.one w1 w.heap.size _ _ s1).later ((Below.refl _ _).alloc (Nat.le_refl _) _)
  have hown9 : Owns ((w1.alloc (.cells #[.int .i64 (c : Int)] 3)).alloc (.cells #[.int .i64 (c : Int)] 3)) w.heap.size 3 (.slice (some ⟨w1.heap.size + 1, 0, none⟩) 1 1) (nats [c]) := by
    have := Owns.one (w1.alloc (.cells #[.int .i64 (c : Int)] 3)) w.heap.size 3 (.int .i64 (c : Int)) (by simp; omega)
    simpa [nats, ints] using this
  have hap : Apart (.slice (some ⟨w1.heap.size + 1, 0, none⟩) 1 1) (.slice (some ⟨w1.heap.size, 0, none⟩) 1 1) := by
    intro k hk hk2
    simp [Value.ownBlock] at hk hk2
    omega
  have hso : [c] = sortM cells.length [c] := rise_sortM (by simp) (by simpa using hc)
  rw [hso] at hown8
  generalize (w1.alloc (.cells #[.int .i64 (c : Int)] 3)).alloc (.cells #[.int .i64 (c : Int)] 3) = w2 at *
  clear hso hb1
  go_loopw [8, 9, 10] (fun v8 v9 i wr => ∃ (k : Nat) (q : List Nat), k ≤ q.length ∧ q.length ≤ cells.length ∧ i = .int .i64 k ∧ Owns wr w.heap.size 3 v9 (nats q) ∧ Owns wr w.heap.size 3 v8 (nats (sortM cells.length q)) ∧ Apart v9 v8 ∧ Below w.heap.size w wr ∧ Hid (Bq (nearM W cells.length) (zeroB cells W) [] cells.length c k q) ∧ Hid (bfs (nearM W cells.length) (zeroB cells W) [] cells.length 0 [c] = bfs (nearM W cells.length) (zeroB cells W) [] (cells.length - k) k q)) (fun _ _ i _ => cells.length - (intOf i).toNat)
  case atStart => exact ⟨0, [c], by simp, by simp; omega, rfl, hown9, hown8, hap, hb2, hBq0, rfl⟩
  case round =>
    clear hown8 hown9 hap hb2
    obtain ⟨k, q, hkq, hqn, rfl, hown9, hown8, hap, hbr, HB, HR⟩ := hrel
    obtain ⟨a9, cap9, hv⟩ := hown9.shape
    simp only [nats_length] at hv
    subst hv
    by_cases hlt : k < q.length
    · have hqk : q[k] < cells.length := HB.out.lt _ (List.getElem_mem hlt)
      obtain ⟨g9, off9, rfl, hc9⟩ := nats_at hown9.at k hlt
      by_cases hz : zeroB cells W q[k] = true
      · have hz0 : ¬ (0 : Int) < (numM cells W q[k] : Int) := by simp [zeroB] at hz; omega
        have Hz := Lib.hid hz
        clear hz
        go_wp2_with fail
        refine (boNumber_any W H cells q[k] _ ⟨hw1, hw8⟩ hh8 HL.out hqk).mono ?_
        rintro e w3 ⟨rfl, hb3⟩
        have hown9' := hown9.later hb3
        have hown8' := hown8.later hb3
        have hbr' := hbr.trans (hb3.mono hbr.size)
        obtain ⟨g9', off9', he9, hc9'⟩ := nats_at hown9'.at k hlt
        simp only [Option.some.injEq, Addr.mk.injEq, and_true] at he9
        obtain ⟨rfl, rfl⟩ := he9
        clear hc9 hown9 hown8 hbr hb3
        go_wp2_with fail
        refine (boNearN_any W H cells.length q[k] _ ⟨hw1, hw8⟩ hh8 HL.out hqk).mono ?_
        rintro e w4 ⟨a4, cap4, rfl, hown4, hb4⟩
        have s3 := hbr'.size
        have s4 := hb4.size
        have hap4 : Apart (.slice (some ⟨g9, off9, none⟩) q.length cap9) (.slice a4 (nearM W cells.length q[k]).length cap4) := Apart.fresh hown9' (fun k hk => (hown4.lt k hk).1)
        have hown9 := hown9'.later hb4
        have hown8 := hown8'.later hb4
        have hbr := hbr'.trans (hb4.mono hbr'.size)
        clear hown9' hown8' hbr' hb4 hc9'
        have hnl := nearM_le W cells.length q[k]
        have hst := HB.out.next HN.out hlt
        rw [if_pos Hz.out] at hst
        have HST := Lib.hid hst
        have hnr : ∀ x ∈ nearM W cells.length q[k], x < cells.length := fun x hx => HN.out _ x hx
        have HNR := Lib.hid hnr
        have HR2 : Hid (bfs (nearM W cells.length) (zeroB cells W) [] cells.length 0 [c] = bfs (nearM W cells.length) (zeroB cells W) [] (cells.length - (k + 1)) (k + 1) (addB [] q (nearM W cells.length q[k]))) := by
          rw [Hid, HR.out, show cells.length - k = (cells.length - (k + 1)) + 1 by omega, bfs, dif_pos hlt, if_pos Hz.out]
        clear hst hnr HR
        generalize nearM W cells.length q[k] = near at *
        go_wp2_with fail
        go_loopw [8, 9, 46] (fun v8 v9 j wr => ∃ (m : Nat) (q' : List Nat), m ≤ near.length ∧ q'.length ≤ cells.length ∧ j = .int .i64 m ∧ Owns wr w.heap.size 3 v9 (nats q') ∧ Owns wr w.heap.size 3 v8 (nats (sortM cells.length q')) ∧ Owns wr w.heap.size 3 (.slice a4 near.length cap4) (nats near) ∧ Apart v9 v8 ∧ Apart v9 (.slice a4 near.length cap4) ∧ Below w.heap.size w wr ∧ Hid (q'.Nodup ∧ ∀ x ∈ q', x < cells.length) ∧ Hid (addB [] q near = addB [] q' (near.drop m))) (fun _ _ j _ => near.length - (intOf j).toNat)
        case atStart => exact ⟨0, q, Nat.zero_le _, hqn, rfl, hown9, hown8, hown4.mono (by omega), hap, hap4, hbr, ⟨HB.out.nodup, HB.out.lt⟩, rfl⟩
        case round =>
          clear hown9 hown8 hown4 hap hap4 hbr
          obtain ⟨m, q', hm, hqn', rfl, hown9, hown8, hown4, hap, hap4, hbr, HD, HA⟩ := hrel
          obtain ⟨a9', cap9', hv⟩ := hown9.shape
          simp only [nats_length] at hv
          subst hv
          have sr := hbr.size
          by_cases hmt : m < near.length
          · have Ht := Lib.hid (List.drop_eq_getElem_cons hmt)
            have hx : near[m] < cells.length := HNR.out _ (List.getElem_mem hmt)
            obtain ⟨g4, off4, rfl, hc4⟩ := nats_at hown4.at m hmt
            have hHas := l1HasN_any q' near[m] a9' cap9' wr hown9.at (by omega)
            by_cases hin : near[m] ∈ q'
            · rw [show decide (near[m] ∈ q') = true by simpa using hin] at hHas
              have HIN := Lib.hid hin
              have HH := Lib.hid hHas
              clear hin hHas
              go_wp2_with fail
              refine HH.out.mono ?_
              rintro e w5 ⟨rfl, rfl⟩
              go_wp2_with fail
              go_roundw
              case rel =>
                first
                  | exact ⟨m + 1, q', by omega, hqn', by go_num, hown9, hown8, hown4, hap, hap4, hbr, HD, by rw [Hid, HA.out, Ht.out, addB, if_pos (.inr HIN.out)]⟩
                  | ((repeat apply Exists.intro); exact ⟨⟨m + 1, q', by omega, hqn', by go_num, hown9, hown8, hown4, hap, hap4, hbr, HD, by rw [Hid, HA.out, Ht.out, addB, if_pos (.inr HIN.out)]⟩, rfl⟩)
              case measure => simp [intOf]; omega
            · rw [show decide (near[m] ∈ q') = false by simpa using hin] at hHas
              have HIN := Lib.hid hin
              have HH := Lib.hid hHas
              have hnd : (q' ++ [near[m]]).Nodup ∧ ∀ x ∈ q' ++ [near[m]], x < cells.length := by
                refine ⟨?_, ?_⟩
                · rw [List.nodup_append]
                  exact ⟨HD.out.1, by simp, by intro a ha b hb e; simp at hb; subst hb; subst e; exact hin ha⟩
                · intro x hx'
                  rcases List.mem_append.1 hx' with h | h
                  · exact HD.out.2 x h
                  · rw [List.mem_singleton.1 h]; exact hx
              have HND := Lib.hid hnd
              have hql := nodup_le hnd.1 hnd.2
              have hsl := sortM_le cells.length q'
              clear hin hHas hnd
              go_wp2_with fail
              refine HH.out.mono ?_
              rintro e w5 ⟨rfl, rfl⟩
              go_wp2_with (at_builtin; refine wpList_app1K rfl _ _ _ rfl w.heap.size _ _ _ elemInt _ _ _ _ rfl rfl rfl hown9 rfl (by simp; omega) sr (by simp; omega) ?_; intro v6 w6 hown6 hb6 hs6 hK6)
              rw [nats_snoc] at hown6
              obtain ⟨hown86, hap86⟩ := hK6 _ _ _ _ hown8 hap
              obtain ⟨hown46, hap46⟩ := hK6 _ _ _ _ hown4 hap4
              have s6 := hb6.size
              clear hK6 hown9 hown8 hown4 hap hap4 hc4
              refine (l1Put_any (sortM cells.length q') near[m] u8 w.heap.size w6 hown86 (by omega) (by omega)).mono ?_
              rintro e w7 ⟨v7, rfl, hown7, hb7, hor⟩
              rw [putM_sort HD.out.2 hx] at hown7
              have hap7 : Apart v6 v7 := by
                rcases hor with rfl | hor
                · exact hap86
                · exact Apart.fresh hown6 hor
              go_wp2_with fail
              go_roundw
              case rel =>
                first
                  | exact ⟨m + 1, _, by omega, hql, by go_num, hown6.later hb7, hown7, hown46.later hb7, hap7, hap46, (hbr.trans hb6).trans (hb7.mono (by omega)), HND.out, by rw [Hid, HA.out, Ht.out, addB, if_neg (by simpa using HIN.out)]⟩
                  | ((repeat apply Exists.intro); exact ⟨⟨m + 1, _, by omega, hql, by go_num, hown6.later hb7, hown7, hown46.later hb7, hap7, hap46, (hbr.trans hb6).trans (hb7.mono (by omega)), HND.out, by rw [Hid, HA.out, Ht.out, addB, if_neg (by simpa using HIN.out)]⟩, rfl⟩)
              case measure => simp [intOf]; omega
          · obtain rfl : m = near.length := by omega
            have hfin : q' = addB [] q near := by rw [HA.out, List.drop_length]; rfl
            have hle : k + 1 ≤ (addB [] q near).length := by
              obtain ⟨t, ht⟩ := addB_pre [] near q
              rw [ht, List.length_append]
              omega
            subst hfin
            go_wp2_with fail
            go_roundw
            case rel =>
              first
                | exact ⟨k + 1, _, hle, hqn', by go_num, hown9, hown8, hap, hbr, HST, HR2⟩
                | ((repeat apply Exists.intro); exact ⟨⟨k + 1, _, hle, hqn', by go_num, hown9, hown8, hap, hbr, HST, HR2⟩, rfl⟩)
            case measure => simp [intOf]; omega
      · have hz0 : (0 : Int) < (numM cells W q[k] : Int) := by simp [zeroB] at hz; omega
        have Hz := Lib.hid hz
        clear hz
        go_wp2_with fail
        refine (boNumber_any W H cells q[k] _ ⟨hw1, hw8⟩ hh8 HL.out hqk).mono ?_
        rintro e w3 ⟨rfl, hb3⟩
        have hst := HB.out.next HN.out hlt
        rw [if_neg Hz.out] at hst
        have HST := Lib.hid hst
        have HR2 : Hid (bfs (nearM W cells.length) (zeroB cells W) [] cells.length 0 [c] = bfs (nearM W cells.length) (zeroB cells W) [] (cells.length - (k + 1)) (k + 1) q) := by
          rw [Hid, HR.out, show cells.length - k = (cells.length - (k + 1)) + 1 by omega, bfs, dif_pos hlt, if_neg Hz.out]
        clear hst
        go_wp2_with fail
        go_roundw
        case rel =>
          first
            | exact ⟨k + 1, q, by omega, hqn, by go_num, hown9.later hb3, hown8.later hb3, hap, hbr.trans (hb3.mono hbr.size), HST, HR2⟩
            | ((repeat apply Exists.intro); exact ⟨⟨k + 1, q, by omega, hqn, by go_num, hown9.later hb3, hown8.later hb3, hap, hbr.trans (hb3.mono hbr.size), HST, HR2⟩, rfl⟩)
        case measure => simp [intOf]; omega
    · obtain rfl : k = q.length := by omega
      have hfin : sortM cells.length q = opM cells W c := by rw [HO.out, HR.out, bfs_stop]
      rw [hfin] at hown8
      go_wp2_with fail
      go_ret
      obtain ⟨a', cap', hv⟩ := hown8.shape
      simp only [nats_length] at hv
      exact ⟨a', cap', by rw [← hv]; rfl, by rw [← hv]; exact hown8, hbr⟩

end Go.Proofs.YtndmkbkmfonefacDoor
