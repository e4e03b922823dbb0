/- Opening: the cells that a click opens, by the model. -/
import Derived.Test.YtndmkbkmfonefacDoorY7
import Derived.Test.YtndmkbkmfonefacDoorT7
import Derived.Outline
namespace Go.Proofs.YtndmkbkmfonefacDoor
open Go.RowKit

theorem hasI_nat (xs : List Nat) (n : Nat) : hasI (xs.map Int.ofNat) (n : Int) = decide (n ∈ xs) := by
  rw [Bool.eq_iff_iff]
  simp only [hasI, List.any_eq_true, List.mem_map, beq_iff_eq, decide_eq_true_eq]
  constructor
  · rintro ⟨x, ⟨y, hy, rfl⟩, h⟩
    have : y = n := Int.ofNat.inj h
    rwa [← this]
  · intro h
    exact ⟨(n : Int), ⟨n, h, rfl⟩, rfl⟩
/-- l1Has of the model over numbers. -/
theorem l1HasN_any (xs : List Nat) (n : Nat) (a : Option Addr) (cap : Nat) (w : World) (hat : At w a (nats xs)) (hl : xs.length ≤ 1048576) :
    Calls Tryd.prog 42 #[.slice a xs.length cap, .int .i64 n] w fun e w' => e = .returned (.bool (decide (n ∈ xs))) ∧ w = w' := by
  have h := l1Has_any (xs.map Int.ofNat) (n : Int) a cap w hat (by simpa using hl)
  rw [hasI_nat, List.length_map] at h
  exact h

theorem Owns.empty (w : World) (B e : Nat) (hB : B ≤ w.heap.size) : Owns (w.alloc (.cells #[] e)) B e (.slice (some ⟨w.heap.size, 0, none⟩) 0 0) [] := by
  refine ⟨by simp, .inr ⟨w.heap.size, 0, #[], by simp, hB, heap_alloc_new w _, by simp, by simp [maxLen], by simp, by simp⟩⟩
theorem At.take {w : World} {a : Option Addr} {xs : List Value} (h : At w a xs) (k : Nat) : At w a (xs.take k) := by
  intro j hj
  have hj' : j < xs.length := by simp at hj; omega
  obtain ⟨b, off, ha, hc⟩ := h j hj'
  exact ⟨b, off, ha, by rw [hc]; simp⟩
theorem At.drop {w : World} {g off : Nat} {xs : List Value} (h : At w (some ⟨g, off, none⟩) xs) (k : Nat) : At w (some ⟨g, off + k, none⟩) (xs.drop k) := by
  intro j hj
  have hj' : k + j < xs.length := by simp at hj; omega
  obtain ⟨b, off', ha, hc⟩ := h (k + j) hj'
  simp only [Option.some.injEq, Addr.mk.injEq, and_true] at ha
  obtain ⟨rfl, rfl⟩ := ha
  exact ⟨g, off + k, rfl, by rw [Nat.add_assoc, hc]; simp⟩
theorem At.nil (w : World) (a : Option Addr) : At w a [] := by intro k hk; simp at hk
theorem nats_take (xs : List Nat) (k : Nat) : nats (xs.take k) = (nats xs).take k := by simp [nats, ints, List.map_take]
theorem nats_drop (xs : List Nat) (k : Nat) : nats (xs.drop k) = (nats xs).drop k := by simp [nats, ints, List.map_drop]

set_option maxRecDepth 100000 in
set_option maxHeartbeats 3200000 in
theorem l1Put_some (xs : List Nat) (x : Nat) (g cap : Nat) (B : Nat) (w : World) (hown : Owns w B 3 (.slice (some ⟨g, 0, none⟩) xs.length cap) (nats xs)) (hl : xs.length ≤ 1048576) (hcap : xs.length ≤ cap) (hcm : cap ≤ 9223372036854775807) (hB : B ≤ w.heap.size) :
    Calls Tryd.prog 74 #[.slice (some ⟨g, 0, none⟩) xs.length cap, .int .i64 (x : Int)] w fun e w' => ∃ v', e = .returned v' ∧ Owns w' B 3 v' (nats (putM xs x)) ∧ Below w.heap.size w w' ∧ (v' = .slice (some ⟨g, 0, none⟩) xs.length cap ∨ ∀ k, v'.ownBlock = some k → w.heap.size ≤ k) := by
  have hat := hown.at
  go_enter Tryd.func74, Tryd.ntmps74
  go_wp2_with fail
  go_loop [5] (fun i => ∃ k : Nat, k ≤ xs.length ∧ i = .int .i64 k ∧ Hid (putM xs x = xs.take k ++ putM (xs.drop k) x)) (fun i => xs.length - (intOf i).toNat)
  case atStart => exact ⟨0, Nat.zero_le _, rfl, by simp [Hid]⟩
  case round =>
    obtain ⟨k, hk, rfl, hR⟩ := hrel
    by_cases hlt : k < xs.length
    · obtain ⟨g', off', he', hc⟩ := nats_at hat k hlt
      simp only [Option.some.injEq, Addr.mk.injEq, and_true] at he'
      obtain ⟨rfl, rfl⟩ := he'
      rw [Nat.zero_add] at hc
      by_cases hx : xs[k] < x
      · have HX := Lib.hid hx
        go_wp2_with fail
        go_round
        case rel => exact ⟨k + 1, by omega, by go_num, by rw [Hid, hR.out, putM_step xs x k hlt HX.out]⟩
        case measure => simp [intOf]; omega
      · by_cases hx2 : xs[k] = x
        · have hd : ((xs[k] : Int) == (x : Int)) = true := by simp [hx2]
          have HX := Lib.hid hx2
          clear hx2
          go_wp2_with fail
          go_ret
          exact ⟨_, rfl, by rw [hR.out, putM_there xs x k hlt HX.out]; exact hown, Below.refl _ _, .inl rfl⟩
        · have hd : ((xs[k] : Int) == (x : Int)) = false := by simp; omega
          have HP := Lib.hid (putM_here xs x k hk (fun _ => by omega))
          have hb0 : Below w.heap.size w (w.alloc (.cells #[] 3)) := (Below.refl _ _).alloc (Nat.le_refl _) _
          go_wp2_with (first
            | (at_builtin; refine wpList_appA rfl (.tmp 34) (.tmp 37) _ rfl w.heap.size _ _ _ elemInt _ [] rfl (Owns.empty w w.heap.size 3 (Nat.le_refl _)) _ _ _ (nats (xs.take k)) rfl (by simp; omega) (by rw [nats_take]; exact (hat.later rfl hb0).take k) (nats_one _) (by simp; omega) (by simp; omega) (by simp) ?_; intro v1 w1 hown1 hb1)
            | (at_builtin; refine wpList_app1 rfl (.tmp 39) (.tmp 41) _ rfl w.heap.size _ _ _ elemInt _ _ _ _ rfl rfl rfl hown1 rfl (by simp; omega) (by have := hb1.size; simp at this; omega) (by simp; omega) ?_; intro v2 w2 hown2 hb2 hs2)
            | (at_builtin; refine wpList_appA rfl (.tmp 43) (.tmp 46) _ rfl w.heap.size _ _ _ elemInt _ _ rfl hown2 _ _ _ (nats (xs.drop k)) rfl (by simp) (by rw [nats_drop]; have hq := (hat.later rfl ((hb0.trans hb1).trans hb2)).drop k; rw [Nat.zero_add] at hq; exact hq) (nats_one _) (by simp; omega) (by simp; omega) (by have q1 := hb1.size; simp at q1; omega) ?_; intro v3 w3 hown3 hb3))
          go_ret
          refine ⟨v3, rfl, ?_, ((hb0.trans hb1).trans hb2).trans hb3, .inr fun k hk => (hown3.lt k hk).1⟩
          have e : [] ++ nats (xs.take k) ++ [Value.int .i64 (x : Int)] ++ nats (xs.drop k) = nats (putM xs x) := by
            rw [List.nil_append, nats_snoc, nats_append, hR.out, HP.out]
          rw [e] at hown3
          exact hown3.mono hB
    · obtain rfl : k = xs.length := by omega
      have HP := Lib.hid (putM_here xs x xs.length hk (fun h => absurd h (by omega)))
      have hb0 : Below w.heap.size w (w.alloc (.cells #[] 3)) := (Below.refl _ _).alloc (Nat.le_refl _) _
      clear hlt
      rcases Nat.eq_or_lt_of_le hcap with hcl | hcl
      all_goals
        try subst hcl
        go_wp2_with (first
          | (at_builtin; refine wpList_appA rfl (.tmp 34) (.tmp 37) _ rfl w.heap.size _ _ _ elemInt _ [] rfl (Owns.empty w w.heap.size 3 (Nat.le_refl _)) _ _ _ (nats xs) rfl (by simp) (hat.later rfl hb0) (nats_one _) (by simp; omega) (by simp; omega) (by simp) ?_; intro v1 w1 hown1 hb1)
          | (at_builtin; refine wpList_app1 rfl (.tmp 39) (.tmp 41) _ rfl w.heap.size _ _ _ elemInt _ _ _ _ rfl rfl rfl hown1 rfl (by simp; omega) (by have := hb1.size; simp at this; omega) (by simp; omega) ?_; intro v2 w2 hown2 hb2 hs2)
          | (at_builtin; refine wpList_appA rfl (.tmp 43) (.tmp 46) _ rfl w.heap.size _ _ _ elemInt _ _ rfl hown2 _ _ _ [] rfl (by simp) (At.nil _ _) (by simp) (by simp; omega) (by simp; omega) (by have q1 := hb1.size; simp at q1; omega) ?_; intro v3 w3 hown3 hb3))
        go_ret
        refine ⟨v3, rfl, ?_, ((hb0.trans hb1).trans hb2).trans hb3, .inr fun k hk => (hown3.lt k hk).1⟩
        have e : [] ++ nats xs ++ [Value.int .i64 (x : Int)] ++ [] = nats (putM xs x) := by
          rw [List.nil_append, nats_snoc, List.append_nil, hR.out, HP.out, List.take_length, List.drop_length, List.append_nil]
        rw [e] at hown3
        exact hown3.mono hB

set_option maxRecDepth 100000 in
set_option maxHeartbeats 1600000 in
theorem l1Put_none (x : Nat) (B : Nat) (w : World) (hB : B ≤ w.heap.size) :
    Calls Tryd.prog 74 #[.slice none 0 0, .int .i64 (x : Int)] w fun e w' => ∃ v', e = .returned v' ∧ Owns w' B 3 v' (nats (putM [] x)) ∧ Below w.heap.size w w' ∧ (v' = .slice none 0 0 ∨ ∀ k, v'.ownBlock = some k → w.heap.size ≤ k) := by
  have hb0 : Below w.heap.size w (w.alloc (.cells #[] 3)) := (Below.refl _ _).alloc (Nat.le_refl _) _
  go_enter Tryd.func74, Tryd.ntmps74
  go_wp2_with fail
  go_loop [5] (fun i => i = .int .i64 0) (fun _ => 0)
  case atStart => exact rfl
  case round =>
    subst hrel
    go_wp2_with (first
      | (at_builtin; refine wpList_appA rfl (.tmp 34) (.tmp 37) _ rfl w.heap.size _ _ _ elemInt _ [] rfl (Owns.empty w w.heap.size 3 (Nat.le_refl _)) _ _ _ [] rfl (by simp) (At.nil _ _) (by simp) (by simp) (by simp) (by simp) ?_; intro v1 w1 hown1 hb1)
      | (at_builtin; refine wpList_app1 rfl (.tmp 39) (.tmp 41) _ rfl w.heap.size _ _ _ elemInt _ _ _ _ rfl rfl rfl hown1 rfl (by simp) (by have := hb1.size; simp at this; omega) (by simp) ?_; intro v2 w2 hown2 hb2 hs2)
      | (at_builtin; refine wpList_appA rfl (.tmp 43) (.tmp 46) _ rfl w.heap.size _ _ _ elemInt _ _ rfl hown2 _ _ _ [] rfl (by simp) (At.nil _ _) (by simp) (by simp) (by simp) (by have q1 := hb1.size; simp at q1; omega) ?_; intro v3 w3 hown3 hb3))
    go_ret
    refine ⟨v3, rfl, ?_, ((hb0.trans hb1).trans hb2).trans hb3, .inr fun k hk => (hown3.lt k hk).1⟩
    have e : [] ++ [] ++ [Value.int .i64 (x : Int)] ++ [] = nats (putM [] x) := rfl
    rw [e] at hown3
    exact hown3.mono hB

/-- l1Put of the model. -/
theorem l1Put_any (xs : List Nat) (x : Nat) (v : Value) (B : Nat) (w : World) (hown : Owns w B 3 v (nats xs)) (hl : xs.length ≤ 1048576) (hB : B ≤ w.heap.size) :
    Calls Tryd.prog 74 #[v, .int .i64 (x : Int)] w fun e w' => ∃ v', e = .returned v' ∧ Owns w' B 3 v' (nats (putM xs x)) ∧ Below w.heap.size w w' ∧ (v' = v ∨ ∀ k, v'.ownBlock = some k → w.heap.size ≤ k) := by
  have h0 := hown
  rcases hown.2 with ⟨rfl, hn⟩ | ⟨g, cap, cur, rfl, _, _, hnc, hcm, _⟩
  · obtain rfl : xs = [] := by simpa [nats, ints] using hn
    exact l1Put_none x B w hB
  · rw [nats_length] at h0 hnc ⊢
    exact l1Put_some xs x g cap B w h0 hl hnc (by unfold maxLen at hcm; exact hcm) hB
end Go.Proofs.YtndmkbkmfonefacDoor
