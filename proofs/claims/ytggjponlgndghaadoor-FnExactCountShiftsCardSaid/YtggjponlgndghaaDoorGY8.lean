/- Y8, Y9, YA, laid as one text. -/
import Derived.Test.YtggjponlgndghaaDoorGY1
import Derived.Test.YtggjponlgndghaaDoorT7
import Derived.Outline
import Derived.Test.YtggjponlgndghaaDoorGN1

/- Opening: the cells that a click opens, by the model. -/
namespace Go.Proofs.YtggjponlgndghaaDoor
open Go.RowKit

theorem hasI_nat (xs : List Nat) (n : Nat) : hasI (xs.map Int.ofNat) (n : Int) = decide (n ∈ xs) := by
  rw [Bool.eq_iff_iff]
  simp only [hasI, List.any_eq_true, List.mem_map, beq_iff_eq, decide_eq_true_eq]
  constructor
  · rintro ⟨x, ⟨y, hy, rfl⟩, h⟩
    have : y = n := Int.ofNat.inj h
    rwa [← this]
  · intro h
    exact ⟨(n : Int), ⟨n, h, rfl⟩, rfl⟩
theorem Owns.empty (w : World) (B e : Nat) (hB : B ≤ w.heap.size) : Owns (w.alloc (.cells #[] e)) B e (.slice (some ⟨w.heap.size, 0, none⟩) 0 0) [] := by
  refine ⟨by simp, .inr ⟨w.heap.size, 0, #[], by simp, hB, heap_alloc_new w _, by simp, by simp [maxLen], by simp, by simp⟩⟩
theorem At.take {w : World} {a : Option Addr} {xs : List Value} (h : At w a xs) (k : Nat) : At w a (xs.take k) := by
  intro j hj
  have hj' : j < xs.length := by simp at hj; omega
  obtain ⟨b, off, ha, hc⟩ := h j hj'
  exact ⟨b, off, ha, by rw [hc]; simp⟩
theorem At.drop {w : World} {g off : Nat} {xs : List Value} (h : At w (some ⟨g, off, none⟩) xs) (k : Nat) : At w (some ⟨g, off + k, none⟩) (xs.drop k) := by
  intro j hj
  have hj' : k + j < xs.length := by simp at hj; omega
  obtain ⟨b, off', ha, hc⟩ := h (k + j) hj'
  simp only [Option.some.injEq, Addr.mk.injEq, and_true] at ha
  obtain ⟨rfl, rfl⟩ := ha
  exact ⟨g, off + k, rfl, by rw [Nat.add_assoc, hc]; simp⟩
theorem At.nil (w : World) (a : Option Addr) : At w a [] := by intro k hk; simp at hk
theorem nats_take (xs : List Nat) (k : Nat) : nats (xs.take k) = (nats xs).take k := by simp [nats, ints, List.map_take]
theorem nats_drop (xs : List Nat) (k : Nat) : nats (xs.drop k) = (nats xs).drop k := by simp [nats, ints, List.map_drop]

set_option maxRecDepth 100000 in
set_option maxHeartbeats 3200000 in
theorem l1Put_some (xs : List Nat) (x : Nat) (g cap : Nat) (B : Nat) (w : World) (hown : Owns w B 3 (.slice (some ⟨g, 0, none⟩) xs.length cap) (nats xs)) (hl : xs.length ≤ 1048576) (hcap : xs.length ≤ cap) (hcm : cap ≤ 9223372036854775807) (hB : B ≤ w.heap.size) :
    Calls Tryd.prog 56 #[.slice (some ⟨g, 0, none⟩) xs.length cap, .int .i64 (x : Int)] w fun e w' => ∃ v', e = .returned v' ∧ Owns w' B 3 v' (nats (putM xs x)) ∧ Below w.heap.size w w' ∧ (v' = .slice (some ⟨g, 0, none⟩) xs.length cap ∨ ∀ k, v'.ownBlock = some k → w.heap.size ≤ k) := by
  have hat := hown.at
  go_enter Tryd.func56, Tryd.ntmps56
  go_wp2_with fail
  go_loop [5] (fun i => ∃ k : Nat, k ≤ xs.length ∧ i = .int .i64 k ∧ Hid (putM xs x = xs.take k ++ putM (xs.drop k) x)) (fun i => xs.length - (intOf i).toNat)
  case atStart => exact ⟨0, Nat.zero_le _, rfl, by simp [Hid]⟩
  case round =>
    obtain ⟨k, hk, rfl, hR⟩ := hrel
    by_cases hlt : k < xs.length
    · obtain ⟨g', off', he', hc⟩ := nats_at hat k hlt
      simp only [Option.some.injEq, Addr.mk.injEq, and_true] at he'
      obtain ⟨rfl, rfl⟩ := he'
      rw [Nat.zero_add] at hc
      by_cases hx : xs[k] < x
      · have HX := Lib.hid hx
        go_wp2_with fail
        go_round
        case rel => exact ⟨k + 1, by omega, by go_num, by rw [Hid, hR.out, putM_step xs x k hlt HX.out]⟩
        case measure => simp [intOf]; omega
      · by_cases hx2 : xs[k] = x
        · have hd : ((xs[k] : Int) == (x : Int)) = true := by simp [hx2]
          have HX := Lib.hid hx2
          clear hx2
          go_wp2_with fail
          go_ret
          exact ⟨_, rfl, by rw [hR.out, putM_there xs x k hlt HX.out]; exact hown, Below.refl _ _, .inl rfl⟩
        · have hd : ((xs[k] : Int) == (x : Int)) = false := by simp; omega
          have HP := Lib.hid (putM_here xs x k hk (fun _ => by omega))
          have hb0 : Below w.heap.size w (w.alloc (.cells #[] 3)) := (Below.refl _ _).alloc (Nat.le_refl _) _
          go_wp2_with (first
            | (at_builtin; refine wpList_appA rfl (.tmp 34) (.tmp 37) _ rfl w.heap.size _ _ _ elemInt _ [] rfl (Owns.empty w w.heap.size 3 (Nat.le_refl _)) _ _ _ (nats (xs.take k)) rfl (by simp; omega) (by rw [nats_take]; exact (hat.later rfl hb0).take k) (nats_one _) (by simp; omega) (by simp; omega) (by simp) ?_; intro v1 w1 hown1 hb1)
            | (at_builtin; refine wpList_app1 rfl (.tmp 39) (.tmp 41) _ rfl w.heap.size _ _ _ elemInt _ _ _ _ rfl rfl rfl hown1 rfl (by simp; omega) (by have := hb1.size; simp at this; omega) (by simp; omega) ?_; intro v2 w2 hown2 hb2 hs2)
            | (at_builtin; refine wpList_appA rfl (.tmp 43) (.tmp 46) _ rfl w.heap.size _ _ _ elemInt _ _ rfl hown2 _ _ _ (nats (xs.drop k)) rfl (by simp) (by rw [nats_drop]; have hq := (hat.later rfl ((hb0.trans hb1).trans hb2)).drop k; rw [Nat.zero_add] at hq; exact hq) (nats_one _) (by simp; omega) (by simp; omega) (by have q1 := hb1.size; simp at q1; omega) ?_; intro v3 w3 hown3 hb3))
          go_ret
          refine ⟨v3, rfl, ?_, ((hb0.trans hb1).trans hb2).trans hb3, .inr fun k hk => (hown3.lt k hk).1⟩
          have e : [] ++ nats (xs.take k) ++ [Value.int .i64 (x : Int)] ++ nats (xs.drop k) = nats (putM xs x) := by
            rw [List.nil_append, nats_snoc, nats_append, hR.out, HP.out]
          rw [e] at hown3
          exact hown3.mono hB
    · obtain rfl : k = xs.length := by omega
      have HP := Lib.hid (putM_here xs x xs.length hk (fun h => absurd h (by omega)))
      have hb0 : Below w.heap.size w (w.alloc (.cells #[] 3)) := (Below.refl _ _).alloc (Nat.le_refl _) _
      clear hlt
      rcases Nat.eq_or_lt_of_le hcap with hcl | hcl
      all_goals
        try subst hcl
        go_wp2_with (first
          | (at_builtin; refine wpList_appA rfl (.tmp 34) (.tmp 37) _ rfl w.heap.size _ _ _ elemInt _ [] rfl (Owns.empty w w.heap.size 3 (Nat.le_refl _)) _ _ _ (nats xs) rfl (by simp) (hat.later rfl hb0) (nats_one _) (by simp; omega) (by simp; omega) (by simp) ?_; intro v1 w1 hown1 hb1)
          | (at_builtin; refine wpList_app1 rfl (.tmp 39) (.tmp 41) _ rfl w.heap.size _ _ _ elemInt _ _ _ _ rfl rfl rfl hown1 rfl (by simp; omega) (by have := hb1.size; simp at this; omega) (by simp; omega) ?_; intro v2 w2 hown2 hb2 hs2)
          | (at_builtin; refine wpList_appA rfl (.tmp 43) (.tmp 46) _ rfl w.heap.size _ _ _ elemInt _ _ rfl hown2 _ _ _ [] rfl (by simp) (At.nil _ _) (by simp) (by simp; omega) (by simp; omega) (by have q1 := hb1.size; simp at q1; omega) ?_; intro v3 w3 hown3 hb3))
        go_ret
        refine ⟨v3, rfl, ?_, ((hb0.trans hb1).trans hb2).trans hb3, .inr fun k hk => (hown3.lt k hk).1⟩
        have e : [] ++ nats xs ++ [Value.int .i64 (x : Int)] ++ [] = nats (putM xs x) := by
          rw [List.nil_append, nats_snoc, List.append_nil, hR.out, HP.out, List.take_length, List.drop_length, List.append_nil]
        rw [e] at hown3
        exact hown3.mono hB

set_option maxRecDepth 100000 in
set_option maxHeartbeats 1600000 in
theorem l1Put_none (x : Nat) (B : Nat) (w : World) (hB : B ≤ w.heap.size) :
    Calls Tryd.prog 56 #[.slice none 0 0, .int .i64 (x : Int)] w fun e w' => ∃ v', e = .returned v' ∧ Owns w' B 3 v' (nats (putM [] x)) ∧ Below w.heap.size w w' ∧ (v' = .slice none 0 0 ∨ ∀ k, v'.ownBlock = some k → w.heap.size ≤ k) := by
  have hb0 : Below w.heap.size w (w.alloc (.cells #[] 3)) := (Below.refl _ _).alloc (Nat.le_refl _) _
  go_enter Tryd.func56, Tryd.ntmps56
  go_wp2_with fail
  go_loop [5] (fun i => i = .int .i64 0) (fun _ => 0)
  case atStart => exact rfl
  case round =>
    subst hrel
    go_wp2_with (first
      | (at_builtin; refine wpList_appA rfl (.tmp 34) (.tmp 37) _ rfl w.heap.size _ _ _ elemInt _ [] rfl (Owns.empty w w.heap.size 3 (Nat.le_refl _)) _ _ _ [] rfl (by simp) (At.nil _ _) (by simp) (by simp) (by simp) (by simp) ?_; intro v1 w1 hown1 hb1)
      | (at_builtin; refine wpList_app1 rfl (.tmp 39) (.tmp 41) _ rfl w.heap.size _ _ _ elemInt _ _ _ _ rfl rfl rfl hown1 rfl (by simp) (by have := hb1.size; simp at this; omega) (by simp) ?_; intro v2 w2 hown2 hb2 hs2)
      | (at_builtin; refine wpList_appA rfl (.tmp 43) (.tmp 46) _ rfl w.heap.size _ _ _ elemInt _ _ rfl hown2 _ _ _ [] rfl (by simp) (At.nil _ _) (by simp) (by simp) (by simp) (by have q1 := hb1.size; simp at q1; omega) ?_; intro v3 w3 hown3 hb3))
    go_ret
    refine ⟨v3, rfl, ?_, ((hb0.trans hb1).trans hb2).trans hb3, .inr fun k hk => (hown3.lt k hk).1⟩
    have e : [] ++ [] ++ [Value.int .i64 (x : Int)] ++ [] = nats (putM [] x) := rfl
    rw [e] at hown3
    exact hown3.mono hB

/-- l1Put of the model. -/
theorem l1Put_any (xs : List Nat) (x : Nat) (v : Value) (B : Nat) (w : World) (hown : Owns w B 3 v (nats xs)) (hl : xs.length ≤ 1048576) (hB : B ≤ w.heap.size) :
    Calls Tryd.prog 56 #[v, .int .i64 (x : Int)] w fun e w' => ∃ v', e = .returned v' ∧ Owns w' B 3 v' (nats (putM xs x)) ∧ Below w.heap.size w w' ∧ (v' = v ∨ ∀ k, v'.ownBlock = some k → w.heap.size ≤ k) := by
  have h0 := hown
  rcases hown.2 with ⟨rfl, hn⟩ | ⟨g, cap, cur, rfl, _, _, hnc, hcm, _⟩
  · obtain rfl : xs = [] := by simpa [nats, ints] using hn
    exact l1Put_none x B w hB
  · rw [nats_length] at h0 hnc ⊢
    exact l1Put_some xs x g cap B w h0 hl hnc (by unfold maxLen at hcm; exact hcm) hB
end Go.Proofs.YtggjponlgndghaaDoor

/- Opening: the search over zeros, by the model. -/
namespace Go.Proofs.YtggjponlgndghaaDoor
open Go.RowKit

/-- Two values own no block in common. -/
def Apart (v u : Value) : Prop := ∀ k, v.ownBlock = some k → u.ownBlock ≠ some k
theorem Apart.fresh {w : World} {B e : Nat} {v u : Value} {xs : List Value} (h : Owns w B e v xs) (hu : ∀ k, u.ownBlock = some k → w.heap.size ≤ k) : Apart v u := by
  intro k hk hk2
  have h1 := (h.lt k hk).2
  have h2 := hu k hk2
  omega
theorem Apart.symm {v u : Value} (h : Apart v u) : Apart u v := fun k hk hk2 => h k hk2 hk

/-- append of one element to a row that the call owns, with what becomes of other rows. -/
theorem wpList_app1K {P : Program} {ops : Array Oper} {rest : List Oper} {o : Oper} {a : Act} {Q : Exit → Act → World → Prop} {w : World} (hgd : o.guard = none) (s x : Operand) (t : TypeId)
    (ho : o.op = .call { callee := .builtin .append, args := #[s, x], argTypes := #[t, t] })
    (B e bytes : Nat) (z : Value) (E : Elem P t e z bytes) (v : Value) (xs : List Value) (x0 : Value) (w0 : World) (hw : w = w0.alloc (.cells #[x0] e)) (hx1 : x0.oneCell' = true)
    (hs : a.eval s = v) (hown : Owns w0 B e v xs) (hx : a.eval x = .slice (some ⟨w0.heap.size, 0, none⟩) 1 1)
    (hlen : (xs.length + 1) * bytes ≤ 140737488355328) (hB : B ≤ w0.heap.size) (hlen' : xs.length < 1099511627776)
    (h : ∀ v' w', Owns w' B e v' (xs ++ [x0]) → Below B w0 w' → w0.heap.size < w'.heap.size → (∀ B' e' u ys, Owns w0 B' e' u ys → Apart v u → Owns w' B' e' u ys ∧ Apart v' u) → wpList P ops Q rest (a.put o.dst v') w') : wpList P ops Q (o :: rest) a w := by
  subst hw
  obtain ⟨i, hi, hz, hsz, hby⟩ := E.info
  refine wpList_plain hgd fun K hK => ?_
  obtain ⟨v', w', hrun, h2, h3, _, h5⟩ := run_append_own_at (P := P) (w0.alloc (.cells #[x0] e)) B t o.type e i z 1 bytes E.und hi hz hsz hby E.one (by decide) v xs.length xs (World.ownsRow.alloc hown _) ⟨w0.heap.size, 0, none⟩ 1 1 [x0] rfl (cell_one_new _ _ _) (by simpa using hx1) (by unfold maxLen; omega) hlen (by simp; omega)
  have hsz2 : w0.heap.size < w'.heap.size := by have := h3.size; simp at this; omega
  unfold Oper.wp execOp
  simp only [ho, resolve, invoke, builtin, Sem.run_bind, Sem.run_pure, Result.andThen_ok, List.map_toArray, List.map_cons, List.map_nil, hs, hx, hrun]
  refine hK _ _ (h v' w' (by simpa [Owns] using h2) (((Below.refl B w0).alloc hB _).grown h3 (by simp; omega) (fun k hk => (Owns.lt hown k hk).1)) hsz2 ?_)
  intro B' e' u ys hu hap
  refine ⟨World.ownsRow.kept (World.ownsRow.alloc hu _) h3 ?_, ?_⟩
  · cases hv : u.ownBlock with
    | none => exact .inl rfl
    | some k => exact .inr fun e => hap k e.symm hv
  · intro k hk hk2
    rcases h5 with h5 | h5
    · exact hap k (h5 ▸ hk) hk2
    · rw [h5] at hk
      have h6 := (Owns.lt hu k hk2).2
      simp at hk
      omega

end Go.Proofs.YtggjponlgndghaaDoor

/- Opening: the search over zeros, by the model, walked. -/
namespace Go.Proofs.YtggjponlgndghaaDoor
open Go.RowKit


end Go.Proofs.YtggjponlgndghaaDoor
