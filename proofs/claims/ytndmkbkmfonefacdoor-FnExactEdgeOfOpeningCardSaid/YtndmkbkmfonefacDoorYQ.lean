/- Opening: slices.DeleteFunc of a row of the call's own, walked with a closure that only reads. -/
import Derived.Test.YtndmkbkmfonefacDoorYG
import Derived.Test.YtndmkbkmfonefacDoorT3
import Derived.Lib.SliceRun
import Derived.Outline
namespace Go.Proofs.YtndmkbkmfonefacDoor
open Go.RowKit

theorem Owns.shrink {w : World} {B e g n cap : Nat} {xs : List Value} (h : Owns w B e (.slice (some ⟨g, 0, none⟩) n cap) xs) (i : Nat) (hi : i ≤ xs.length) : Owns w B e (.slice (some ⟨g, 0, none⟩) i cap) (xs.take i) := by
  obtain ⟨h1, h2⟩ := h
  refine ⟨by simp, ?_⟩
  rcases h2 with ⟨h2, _⟩ | ⟨g', cap', cur, hv, hg, hh, h3, h4, h5, h6⟩
  · cases h2
  · obtain ⟨rfl, rfl, rfl⟩ : g = g' ∧ n = xs.length ∧ cap = cap' := by simpa using hv
    refine .inr ⟨g, cap, cur, by simp; omega, hg, hh, by simp; omega, h4, h5, ?_⟩
    rw [Nat.mul_one] at h6 ⊢
    rw [List.length_take, Nat.min_eq_left hi, ← h6, List.take_take, Nat.min_eq_left hi]
/-- Cells stored from a place on: what stands ahead of it stays. -/
theorem Owns.stores {B e g n cap : Nat} : ∀ (vs : List Value) (o : Nat) (w : World) (xs : List Value), Owns w B e (.slice (some ⟨g, 0, none⟩) n cap) xs → ∃ ys, ys.length = xs.length ∧ ys.take o = xs.take o ∧ Owns (w.setCells g o vs) B e (.slice (some ⟨g, 0, none⟩) n cap) ys
  | [], o, w, xs, h => ⟨xs, rfl, rfl, h⟩
  | v :: vs, o, w, xs, h => by
    obtain ⟨ys, h1, h2, h3⟩ := Owns.stores vs (o + 1) _ _ (h.put o v)
    refine ⟨ys, by rw [h1, List.length_set], ?_, h3⟩
    have := congrArg (List.take o) h2
    rw [List.take_take, List.take_take, Nat.min_eq_left (by omega), List.take_set_of_le (by omega)] at this
    exact this
theorem setCells_below {g : Nat} : ∀ (vs : List Value) (o : Nat) (w : World), Below g w (w.setCells g o vs)
  | [], _, w => Below.refl _ _
  | v :: vs, o, w => (Below.set o v).trans (setCells_below vs (o + 1) _)

set_option maxRecDepth 100000 in
set_option maxHeartbeats 1600000 in
theorem indexFunc_any (v : Value) (xs : List Nat) (p : Nat → Bool) (F : Nat) (first cp : Array Value) (B : Nat) (w : World) (hown : Owns w B 3 v (nats xs)) (hl : xs.length ≤ 1048576)
    (hE : ∀ (args : Array Value) (w' : World), (callFunc F args).run Tryd.prog w' = .ok (.enter F args) w')
    (hf : ∀ (w' : World) (x : Nat), x ∈ xs → Below w.heap.size w w' → Calls Tryd.prog F (first.push (.int .i64 (x : Int)) ++ cp) w' fun e w'' => e = .returned (.bool (p x)) ∧ Below w'.heap.size w' w'') :
    Calls Tryd.prog 77 #[v, .func (.func F) first cp] w fun e w' => Below w.heap.size w w' ∧
      ((e = .returned (.int .i64 (-1)) ∧ ∀ x ∈ xs, p x = false) ∨ ∃ k, ∃ h : k < xs.length, e = .returned (.int .i64 k) ∧ p xs[k] = true ∧ ∀ x ∈ xs.take k, p x = false) := by
  have HF := Lib.hid hf
  clear hf
  obtain ⟨a, cap, hv⟩ := hown.shape
  simp only [nats_length] at hv
  subst hv
  have hat := hown.at
  go_enter Tryd.func77, Tryd.ntmps77
  go_wp2_with fail
  go_loopw [8] (fun i wr => ∃ k : Nat, k ≤ xs.length ∧ i = .int .i64 k ∧ Below w.heap.size w wr ∧ Hid (∀ x ∈ xs.take k, p x = false)) (fun i _ => xs.length - (intOf i).toNat)
  case atStart => exact ⟨0, Nat.zero_le _, rfl, Below.refl _ _, by intro x hx; simp at hx⟩
  case round =>
    obtain ⟨k, hk, rfl, hbr, hN⟩ := hrel
    have sr := hbr.size
    by_cases hlt : k < xs.length
    · obtain ⟨g, off, he, hc⟩ := nats_at (hat.later rfl hbr) k hlt
      subst he
      have hcall := HF.out wr xs[k] (List.getElem_mem hlt) hbr
      cases hp : p xs[k] with
      | true =>
        rw [hp] at hcall
        have HC := Lib.hid hcall
        have HP := Lib.hid hp
        clear hcall hp
        go_wp2_with fail
        refine HC.out.mono ?_
        rintro e w2 ⟨rfl, hb2⟩
        go_wp2_with fail
        go_ret
        exact ⟨hbr.trans (hb2.mono sr), .inr ⟨k, hlt, rfl, HP.out, hN.out⟩⟩
      | false =>
        rw [hp] at hcall
        have HC := Lib.hid hcall
        have HP := Lib.hid hp
        clear hcall hp
        go_wp2_with fail
        refine HC.out.mono ?_
        rintro e w2 ⟨rfl, hb2⟩
        go_wp2_with fail
        go_roundw
        case rel =>
          refine ⟨k + 1, by omega, by go_num, hbr.trans (hb2.mono sr), ?_⟩
          intro x hx
          rw [List.take_succ_eq_append_getElem hlt] at hx
          rcases List.mem_append.1 hx with h | h
          · exact hN.out x h
          · rw [List.mem_singleton.1 h]; exact HP.out
        case measure => simp [intOf]; omega
    · obtain rfl : k = xs.length := by omega
      go_wp2_with fail
      go_ret
      exact ⟨hbr, .inl ⟨rfl, by have := hN.out; rw [List.take_length] at this; exact this⟩⟩

set_option maxRecDepth 100000 in
set_option maxHeartbeats 3200000 in
theorem deleteFunc_any (v : Value) (xs : List Nat) (p : Nat → Bool) (F : Nat) (first cp : Array Value) (B : Nat) (w : World) (hown : Owns w B 3 v (nats xs)) (hl : xs.length ≤ 1048576) (hB : B ≤ w.heap.size)
    (hE : ∀ (args : Array Value) (w' : World), (callFunc F args).run Tryd.prog w' = .ok (.enter F args) w')
    (hf : ∀ (w' : World) (x : Nat), x ∈ xs → Below B w w' → Calls Tryd.prog F (first.push (.int .i64 (x : Int)) ++ cp) w' fun e w'' => e = .returned (.bool (p x)) ∧ Below w'.heap.size w' w'') :
    Calls Tryd.prog 47 #[v, .func (.func F) first cp] w fun e w' => ∃ v', e = .returned v' ∧ Owns w' B 3 v' (nats (xs.filter fun x => !p x)) ∧ Below B w w' := by
  have hix := indexFunc_any v xs p F first cp B w hown hl hE (fun w' x hx hb => hf w' x hx (hb.mono hB))
  have HF := Lib.hid hf
  have HIX := Lib.hid hix
  clear hf hix
  have z3 : ∀ w, (zeroValue 3).run Tryd.prog w = .ok (.int .i64 0) w := fun w => by kernel_rfl
  have HZ := Lib.hid z3
  clear z3
  go_enter Tryd.func47, Tryd.ntmps47
  go_wp2_with fail
  refine HIX.out.mono ?_
  rintro e w1 ⟨hb1, h1⟩
  have s1 := hb1.size
  have hown1 := hown.later hb1
  have hb1B := hb1.mono hB
  rcases h1 with ⟨rfl, hno⟩ | ⟨i0, hi0, rfl, hpi, hlo⟩
  · have HN : Hid (xs.filter (fun x => !p x) = xs) := by
      rw [Hid, List.filter_eq_self]
      intro x hx
      rw [hno x hx]; rfl
    clear hno
    go_wp2_with fail
    go_ret
    exact ⟨v, rfl, by rw [HN.out]; exact hown1, hb1B⟩
  · have hd : ((i0 : Int) == -1) = false := by rw [beq_eq_false_iff_ne]; omega
    obtain ⟨g, hg, cap, hvg⟩ : ∃ g, B ≤ g ∧ ∃ cap, v = .slice (some ⟨g, 0, none⟩) xs.length cap := by
      rcases hown1.2 with ⟨_, h0⟩ | ⟨g, cap, cur, hv, hg, _⟩
      · rw [nats_length] at h0; omega
      · rw [nats_length] at hv; exact ⟨g, hg, cap, hv⟩
    subst hvg
    have hcap : xs.length ≤ cap ∧ cap ≤ 9223372036854775807 := by
      rcases hown1.2 with ⟨h0, _⟩ | ⟨g', cap', cur, hv, _, _, h3, h4, _⟩
      · cases h0
      · obtain ⟨rfl, _, rfl⟩ : g = g' ∧ xs.length = (nats xs).length ∧ cap = cap' := by simpa using hv
        rw [nats_length] at h3
        unfold maxLen at h4
        exact ⟨h3, h4⟩
    obtain ⟨hc1, hc2⟩ := hcap
    have HI : Hid (xs.take i0 = (xs.take (i0 + 1)).filter (fun x => !p x)) := by
      rw [Hid, List.take_succ_eq_append_getElem hi0, List.filter_append, List.filter_eq_self.2 (fun x hx => by rw [hlo x hx]; rfl)]
      simp [hpi]
    clear hlo hpi
    go_wp2_with fail
    go_loopw [5, 6, 7] (fun i j _ wr => ∃ (m k : Nat) (ys : List Nat), m < k ∧ k ≤ xs.length ∧ i = .int .i64 m ∧ j = .int .i64 k ∧ ys.length = xs.length ∧ Owns wr B 3 (.slice (some ⟨g, 0, none⟩) xs.length cap) (nats ys) ∧ Below B w wr ∧ B ≤ wr.heap.size ∧ Hid (ys.take m = (xs.take k).filter (fun x => !p x)) ∧ Hid (ys.drop k = xs.drop k)) (fun _ j _ _ => xs.length - (intOf j).toNat)
    case atStart => exact ⟨i0, i0 + 1, xs, by omega, by omega, rfl, by go_num, rfl, hown1, hb1B, by omega, HI, rfl⟩
    case round =>
      clear hown1 hb1B hb1 hown
      obtain ⟨m, k, ys, hmk, hk, rfl, rfl, hyl, hown, hbr, sr, hT, hD⟩ := hrel
      have HYL := Lib.hid hyl
      clear hyl
      by_cases hlt : k < xs.length
      · have hky : k < ys.length := by rw [HYL.out]; exact hlt
        obtain ⟨g', off', he, hc⟩ := nats_at hown.at k hky
        simp only [Option.some.injEq, Addr.mk.injEq, and_true] at he
        obtain ⟨rfl, rfl⟩ := he
        rw [Nat.zero_add] at hc
        have hyk : Hid (ys[k] = xs[k]) := by
          have h1 := List.drop_eq_getElem_cons hky
          have h2 := List.drop_eq_getElem_cons hlt
          rw [hD.out, h2] at h1
          exact ((List.cons.inj h1).1).symm
        rw [hyk.out] at hc
        have hD2 : Hid (ys.drop (k + 1) = xs.drop (k + 1)) := by
          have := congrArg (List.drop 1) hD.out
          rw [List.drop_drop, List.drop_drop] at this
          exact this
        have hcall := HF.out wr xs[k] (List.getElem_mem hlt) hbr
        cases hp : p xs[k] with
        | true =>
          rw [hp] at hcall
          have HC := Lib.hid hcall
          have HP := Lib.hid hp
          clear hcall hp
          go_wp2_with fail
          refine HC.out.mono ?_
          rintro e w2 ⟨rfl, hb2⟩
          have s2 := hb2.size
          go_wp2_with fail
          go_roundw
          case rel =>
            first
              | exact ⟨m, k + 1, ys, by omega, by omega, rfl, by go_num, HYL.out, hown.later hb2, hbr.trans (hb2.mono sr), by omega, by rw [Hid, hT.out, List.take_succ_eq_append_getElem hlt, List.filter_append]; simp [HP.out], hD2⟩
              | ((repeat apply Exists.intro); exact ⟨⟨m, k + 1, ys, by omega, by omega, rfl, by go_num, HYL.out, hown.later hb2, hbr.trans (hb2.mono sr), by omega, by rw [Hid, hT.out, List.take_succ_eq_append_getElem hlt, List.filter_append]; simp [HP.out], hD2⟩, rfl⟩)
          case measure => simp [intOf]; omega
        | false =>
          rw [hp] at hcall
          have HC := Lib.hid hcall
          have HP := Lib.hid hp
          clear hcall hp
          have hmy : m < ys.length := by rw [HYL.out]; omega
          go_wp2_with fail
          refine HC.out.mono ?_
          rintro e w2 ⟨rfl, hb2⟩
          have s2 := hb2.size
          have hown2 := hown.later hb2
          have hbr2 := hbr.trans (hb2.mono sr)
          obtain ⟨g', off', he, hcm⟩ := nats_at hown2.at m hmy
          simp only [Option.some.injEq, Addr.mk.injEq, and_true] at he
          obtain ⟨rfl, rfl⟩ := he
          rw [Nat.zero_add] at hcm
          have hfr := hown2.froz m
          have hput := hown2.put m (.int .i64 (xs[k] : Int))
          rw [show (nats ys).set m (.int .i64 (xs[k] : Int)) = nats (ys.set m xs[k]) by simp [nats, ints, List.map_set]] at hput
          have hbs := hbr2.trans ((Below.set (w := w2) (g := g) m (.int .i64 (xs[k] : Int))).mono hg)
          have hT2 : Hid ((ys.set m xs[k]).take (m + 1) = (xs.take (k + 1)).filter (fun x => !p x)) := by
            rw [Hid, List.take_succ_eq_append_getElem hlt, List.filter_append, ← hT.out, List.take_succ_eq_append_getElem (by simpa using hmy), List.take_set_of_le (by omega)]
            simp [HP.out]
          have hD3 : Hid ((ys.set m xs[k]).drop (k + 1) = xs.drop (k + 1)) := by
            rw [Hid, List.drop_set_of_lt (by omega)]; exact hD2.out
          clear hown hb2 hbr hc hown2
          go_wp2_with fail
          go_roundw
          case rel =>
            first
              | exact ⟨m + 1, k + 1, _, by omega, by omega, by go_num, by go_num, by rw [List.length_set]; exact HYL.out, hput, hbs, by simp [World.setCell]; omega, hT2, hD3⟩
              | ((repeat apply Exists.intro); exact ⟨⟨m + 1, k + 1, _, by omega, by omega, by go_num, by go_num, by rw [List.length_set]; exact HYL.out, hput, hbs, by simp [World.setCell]; omega, hT2, hD3⟩, rfl⟩)
          case measure => simp [intOf]; omega
      · obtain rfl : k = xs.length := by omega
        rw [List.take_length] at hT
        have hcl : ∀ ty, (Builtin.clear_ #[25] ty #[.slice (some ⟨g, m, none⟩) (xs.length - m) (cap - m)]).run Tryd.prog wr = .ok (.tuple #[]) (wr.setCells g m (List.replicate (xs.length - m) (.int .i64 0))) := fun ty =>
          Lib.run_clear_slice wr _ _ ty _ Tryd.underlying25 HZ.out rfl rfl g m _ _ (by omega) (fun j hj => by
            obtain ⟨g', off', he, hc⟩ := nats_at hown.at (m + j) (by rw [HYL.out]; omega)
            simp only [Option.some.injEq, Addr.mk.injEq, and_true] at he
            obtain ⟨rfl, rfl⟩ := he
            rw [Nat.zero_add] at hc
            rw [hc]; rfl) (fun j _ => hown.froz (m + j))
        obtain ⟨zs, hz1, hz2, hz3⟩ := Owns.stores (List.replicate (xs.length - m) (.int .i64 0)) m wr _ hown
        have hsh := hz3.shrink m (by rw [hz1, nats_length, HYL.out]; omega)
        rw [hz2, ← nats_take, hT.out] at hsh
        have hbs := hbr.trans ((setCells_below (g := g) (List.replicate (xs.length - m) (.int .i64 0)) m wr).mono hg)
        clear hown hbr hz1 hz2 hz3
        go_wp2_with fail
        go_ret
        exact ⟨_, rfl, hsh, hbs⟩
end Go.Proofs.YtndmkbkmfonefacDoor
