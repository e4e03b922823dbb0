/- Counts by the model: texts sorted by halves. -/
import Derived.Test.YthlbplmghjaeoadGJH
import Derived.WalkLawsBesides
import Derived.Deep.DeepCutAuto
import Derived.Outline
namespace Go.Proofs.Ythlbplmghjaeoad
open Go.RowKit

/-- Is a text at most another one? -/
def leT (a b : List UInt8) : Bool := Op.bytesLess a b || a == b
theorem less_irrefl : ∀ a : List UInt8, Op.bytesLess a a = false
  | [] => rfl
  | x :: a => by rw [Op.bytesLess, less_irrefl a]; simp
theorem less_trich : ∀ a b : List UInt8, Op.bytesLess a b = true ∨ a = b ∨ Op.bytesLess b a = true
  | [], [] => .inr (.inl rfl)
  | [], _ :: _ => .inl rfl
  | _ :: _, [] => .inr (.inr rfl)
  | x :: a, y :: b => by
    simp only [Op.bytesLess, Bool.or_eq_true, Bool.and_eq_true, decide_eq_true_eq, beq_iff_eq, List.cons.injEq]
    rcases Nat.lt_trichotomy x.toNat y.toNat with h | h | h
    · exact .inl (.inl (UInt8.lt_iff_toNat_lt.2 h))
    · have hxy : x = y := UInt8.toNat_inj.1 h
      subst hxy
      rcases less_trich a b with h1 | h1 | h1
      · exact .inl (.inr ⟨rfl, h1⟩)
      · exact .inr (.inl ⟨rfl, h1⟩)
      · exact .inr (.inr (.inr ⟨rfl, h1⟩))
    · exact .inr (.inr (.inl (UInt8.lt_iff_toNat_lt.2 h)))
theorem less_nil (a : List UInt8) : Op.bytesLess a [] = false := by cases a <;> rfl
theorem less_trans {a b c : List UInt8} (h1 : Op.bytesLess a b = true) (h2 : Op.bytesLess b c = true) : Op.bytesLess a c = true := by
  induction a generalizing b c with
  | nil =>
    cases b with
    | nil => cases h1
    | cons y b =>
      cases c with
      | nil => rw [less_nil] at h2; cases h2
      | cons z c => rfl
  | cons x a ih =>
    cases b with
    | nil => rw [less_nil] at h1; cases h1
    | cons y b =>
      cases c with
      | nil => rw [less_nil] at h2; cases h2
      | cons z c =>
        simp only [Op.bytesLess, Bool.or_eq_true, Bool.and_eq_true, decide_eq_true_eq, beq_iff_eq, UInt8.lt_iff_toNat_lt] at h1 h2 ⊢
        rcases h1 with h1 | ⟨rfl, h1⟩
        · rcases h2 with h2 | ⟨rfl, h2⟩
          · exact .inl (by omega)
          · exact .inl h1
        · rcases h2 with h2 | ⟨rfl, h2⟩
          · exact .inl h2
          · exact .inr ⟨rfl, ih h1 h2⟩
theorem leT_iff {a b : List UInt8} : leT a b = true ↔ Op.bytesLess a b = true ∨ a = b := by simp [leT]
theorem leT_trans {a b c : List UInt8} (h1 : leT a b = true) (h2 : leT b c = true) : leT a c = true := by
  rw [leT_iff] at *
  rcases h1 with h1 | rfl
  · rcases h2 with h2 | rfl
    · exact .inl (less_trans h1 h2)
    · exact .inl h1
  · exact h2
theorem leT_total {a b : List UInt8} (h : leT a b = false) : leT b a = true := by
  rw [leT_iff]
  have h0 : ¬ leT a b = true := by rw [h]; decide
  rw [leT_iff] at h0
  rcases less_trich a b with h1 | h1 | h1
  · exact absurd (.inl h1) h0
  · exact .inr h1.symm
  · exact .inl h1
theorem leT_anti {a b : List UInt8} (h1 : leT a b = true) (h2 : leT b a = true) : a = b := by
  rw [leT_iff] at *
  rcases h1 with h1 | h1
  · rcases h2 with h2 | h2
    · have := less_trans h1 h2
      rw [less_irrefl] at this
      cases this
    · exact h2.symm
  · exact h1

/-- Two sorted lists as one. -/
def mrg : List (List UInt8) → List (List UInt8) → List (List UInt8)
  | [], ys => ys
  | x :: xs, [] => x :: xs
  | x :: xs, y :: ys => if leT x y = true then x :: mrg xs (y :: ys) else y :: mrg (x :: xs) ys
termination_by xs ys => xs.length + ys.length
theorem mrg_nil (xs : List (List UInt8)) : mrg xs [] = xs := by cases xs <;> simp [mrg]
theorem mrg_perm : ∀ xs ys : List (List UInt8), (mrg xs ys).Perm (xs ++ ys)
  | [], ys => by rw [mrg]; exact List.Perm.refl _
  | x :: xs, [] => by rw [mrg, List.append_nil]
  | x :: xs, y :: ys => by
    rw [mrg]
    split
    · exact (mrg_perm xs (y :: ys)).cons x
    · exact ((mrg_perm (x :: xs) ys).cons y).trans (List.perm_middle.symm)
termination_by xs ys => xs.length + ys.length
theorem mrg_sorted : ∀ xs ys : List (List UInt8), xs.Pairwise (fun a b => leT a b = true) → ys.Pairwise (fun a b => leT a b = true) → (mrg xs ys).Pairwise (fun a b => leT a b = true)
  | [], ys, _, h => by rw [mrg]; exact h
  | x :: xs, [], h, _ => by rw [mrg]; exact h
  | x :: xs, y :: ys, h1, h2 => by
    rw [mrg]
    obtain ⟨p1, q1⟩ := List.pairwise_cons.1 h1
    obtain ⟨p2, q2⟩ := List.pairwise_cons.1 h2
    split
    · rename_i hle
      refine List.pairwise_cons.2 ⟨fun z hz => ?_, mrg_sorted xs (y :: ys) q1 h2⟩
      rcases List.mem_append.1 ((mrg_perm xs (y :: ys)).mem_iff.1 hz) with h | h
      · exact p1 z h
      · rcases List.mem_cons.1 h with rfl | h
        · exact hle
        · exact leT_trans hle (p2 z h)
    · rename_i hle
      have hle2 := leT_total (by simpa using hle)
      refine List.pairwise_cons.2 ⟨fun z hz => ?_, mrg_sorted (x :: xs) ys h1 q2⟩
      rcases List.mem_append.1 ((mrg_perm (x :: xs) ys).mem_iff.1 hz) with h | h
      · rcases List.mem_cons.1 h with rfl | h
        · exact hle2
        · exact leT_trans hle2 (p1 z h)
      · exact p2 z h
termination_by xs ys => xs.length + ys.length
/-- Sorted by halves. -/
def srt : Nat → List (List UInt8) → List (List UInt8)
  | 0, L => L
  | f + 1, L => if L.length < 2 then L else mrg (srt f (L.take (L.length / 2))) (srt f (L.drop (L.length / 2)))
theorem srt_perm : ∀ (f : Nat) (L : List (List UInt8)), (srt f L).Perm L
  | 0, L => List.Perm.refl _
  | f + 1, L => by
    rw [srt]
    split
    · exact List.Perm.refl _
    · refine (mrg_perm _ _).trans (((srt_perm f _).append (srt_perm f _)).trans ?_)
      rw [List.take_append_drop]
theorem srt_sorted : ∀ (f : Nat) (L : List (List UInt8)), L.length ≤ 2 ^ f → (srt f L).Pairwise (fun a b => leT a b = true)
  | 0, L, h => by
    rw [srt]
    match L, h with
    | [], _ => exact List.Pairwise.nil
    | [a], _ => exact List.pairwise_singleton _ _
    | a :: b :: r, h => simp at h <;> omega
  | f + 1, L, h => by
    rw [srt]
    rw [Nat.pow_succ] at h
    split
    · rename_i h2
      match L, h2 with
      | [], _ => exact List.Pairwise.nil
      | [a], _ => exact List.pairwise_singleton _ _
      | a :: b :: r, h2 => simp at h2 <;> omega
    · exact mrg_sorted _ _ (srt_sorted f _ (by rw [List.length_take]; omega)) (srt_sorted f _ (by rw [List.length_drop]; omega))
theorem srt_length (f : Nat) (L : List (List UInt8)) : (srt f L).length = L.length := (srt_perm f L).length_eq
theorem mrg_length (xs ys : List (List UInt8)) : (mrg xs ys).length = xs.length + ys.length := by rw [(mrg_perm xs ys).length_eq, List.length_append]

theorem At.takeT {w : World} {g o : Nat} {L : List (List UInt8)} (h : At w (some ⟨g, o, none⟩) (txts L)) (n : Nat) : At w (some ⟨g, o, none⟩) (txts (L.take n)) := by
  intro k hk
  have hk2 : k < (L.take n).length := by simpa [txts] using hk
  have hkL : k < L.length := by rw [List.length_take] at hk2; omega
  obtain ⟨b, off, he, hc⟩ := txts_at h k hkL
  refine ⟨b, off, he, ?_⟩
  rw [hc]
  simp [txts]
theorem At.dropT {w : World} {g o : Nat} {L : List (List UInt8)} (h : At w (some ⟨g, o, none⟩) (txts L)) (n : Nat) : At w (some ⟨g, o + n, none⟩) (txts (L.drop n)) := by
  intro k hk
  have hk2 : k < (L.drop n).length := by simpa [txts] using hk
  have hkL : n + k < L.length := by rw [List.length_drop] at hk2; omega
  obtain ⟨b, off, he, hc⟩ := txts_at h (n + k) hkL
  simp only [Option.some.injEq, Addr.mk.injEq, and_true] at he
  obtain ⟨rfl, rfl⟩ := he
  refine ⟨g, o + n, rfl, ?_⟩
  rw [Nat.add_assoc, hc]
  simp [txts]
theorem mrg_left {X Y : List (List UInt8)} {i k : Nat} (hi : i < X.length) (h : k = Y.length ∨ ∃ hk : k < Y.length, leT X[i] Y[k] = true) : mrg (X.drop i) (Y.drop k) = X[i] :: mrg (X.drop (i + 1)) (Y.drop k) := by
  rw [List.drop_eq_getElem_cons hi]
  rcases h with rfl | ⟨hk, h⟩
  · rw [List.drop_length, mrg_nil, mrg_nil]
  · rw [List.drop_eq_getElem_cons hk, mrg, if_pos h]
theorem mrg_right {X Y : List (List UInt8)} {i k : Nat} (hk : k < Y.length) (h : i = X.length ∨ ∃ hi : i < X.length, leT X[i] Y[k] = false) : mrg (X.drop i) (Y.drop k) = Y[k] :: mrg (X.drop i) (Y.drop (k + 1)) := by
  rw [List.drop_eq_getElem_cons hk]
  rcases h with rfl | ⟨hi, h⟩
  · rw [List.drop_length, mrg, mrg]
  · rw [List.drop_eq_getElem_cons hi, mrg, if_neg (by rw [h]; decide)]

set_option maxRecDepth 100000 in
set_option maxHeartbeats 3200000 in
theorem ctSorted_any : ∀ (f : Nat) (L : List (List UInt8)) (a : Option Addr) (cap : Nat) (w : World), At w a (txts L) → L.length ≤ 2 ^ f → L.length ≤ 4096 → L.length ≤ cap → 
    Calls Try.prog 60 #[.slice a L.length cap] w fun e w' => ∃ a' cap', e = .returned (.slice a' (srt f L).length cap') ∧ At w' a' (txts (srt f L)) ∧ Below w.heap.size w w'
  | 0, L, a, cap, w, hat, hf, hl, hc => by
    have h2 : L.length < 2 := by simp at hf; omega
    go_enter Try.func60, Try.ntmps60
    go_wp2_with fail
    go_ret
    exact ⟨a, cap, rfl, hat, Below.refl _ _⟩
  | f + 1, L, a, cap, w, hat, hf, hl, hc => by
    by_cases h2 : L.length < 2
    · have HS : Hid (srt (f + 1) L = L) := by rw [Hid, srt, if_pos h2]
      go_enter Try.func60, Try.ntmps60
      go_wp2_with fail
      go_ret
      exact ⟨a, cap, by rw [HS.out] <;> rfl, by rw [HS.out]; exact hat, Below.refl _ _⟩
    · have HS : Hid (srt (f + 1) L = mrg (srt f (L.take (L.length / 2))) (srt f (L.drop (L.length / 2)))) := by rw [Hid, srt, if_neg h2]
      have h2' : 2 ≤ L.length := by omega
      obtain ⟨g, o, hag, hq⟩ := txts_at hat 0 (by omega)
      subst hag
      clear hq
      have hh1 : L.length / 2 ≤ L.length := by omega
      have hw : IntKind.i64.wrap ((L.length : Int) / 2) = ((L.length / 2 : Nat) : Int) := IntWalk.i64_in _ ⟨by omega, by omega⟩
      have hh2 : ((L.length / 2 : Nat) : Int) ≤ (cap : Int) := by omega
      have hh3 : (0 : Int) ≤ ((L.length / 2 : Nat) : Int) := by omega
      have hh4 : ((L.length / 2 : Nat) : Int) ≤ (L.length : Int) := by omega
      have hh5 : L.length / 2 < cap := by omega
      have hh6 : ¬ cap = L.length / 2 := by omega
      have p2 : 2 ^ (f + 1) = 2 ^ f * 2 := Nat.pow_succ ..
      have hf1 : L.length / 2 ≤ 2 ^ f := by omega
      have hf2 : L.length - L.length / 2 ≤ 2 ^ f := by omega
      generalize L.length / 2 = h at *
      clear h2 p2
      have e1 : (L.take h).length = h := by rw [List.length_take]; omega
      have e2 : (L.drop h).length = L.length - h := List.length_drop
      have hX : ∀ w', Below w.heap.size w w' → Calls Try.prog 60 #[.slice (some ⟨g, o, none⟩) h cap] w' fun e w'' => ∃ a' cap', e = .returned (.slice a' (srt f (L.take h)).length cap') ∧ At w'' a' (txts (srt f (L.take h))) ∧ Below w'.heap.size w' w'' := by
        intro w' hb
        have := ctSorted_any f (L.take h) (some ⟨g, o, none⟩) cap w' ((hat.later rfl hb).takeT h) (by omega) (by omega) (by omega)
        rw [e1] at this
        exact this
      have hY : ∀ w', Below w.heap.size w w' → Calls Try.prog 60 #[.slice (some ⟨g, o + h, none⟩) (L.length - h) (cap - h)] w' fun e w'' => ∃ a' cap', e = .returned (.slice a' (srt f (L.drop h)).length cap') ∧ At w'' a' (txts (srt f (L.drop h))) ∧ Below w'.heap.size w' w'' := by
        intro w' hb
        have := ctSorted_any f (L.drop h) (some ⟨g, o + h, none⟩) (cap - h) w' ((hat.later rfl hb).dropT h) (by omega) (by omega) (by omega)
        rw [e2] at this
        exact this
      have HX := Lib.hid hX
      have HY := Lib.hid hY
      have lx : (srt f (L.take h)).length = h := by rw [srt_length, e1]
      have ly : (srt f (L.drop h)).length = L.length - h := by rw [srt_length, e2]
      have lxy : (srt f (L.take h)).length + (srt f (L.drop h)).length ≤ 4096 := by omega
      clear hX hY e1 e2 hat lx ly hf1 hf2
      generalize srt f (L.take h) = X at *
      generalize srt f (L.drop h) = Y at *
      generalize srt (f + 1) L = Z at *
      have hdr : Below w.heap.size w w.drew := toDrewJ (Below.refl _ w)
      go_enter Try.func60, Try.ntmps60
      go_wp2_with fail
      go_cut [3, 4] (fun s3 s4 wx => ∃ a1 c1 a2 c2, s3 = .slice a1 X.length c1 ∧ s4 = .slice a2 Y.length c2 ∧ At wx a1 (txts X) ∧ At wx a2 (txts Y) ∧ Below w.heap.size w wx)
      case first =>
        go_region_held3 (fun _ => True) (trivial)
          (first
            | (go_at_call 60; ((with_reducible refine (HX.out _ (by first | exact hdr | exact hbB)).mono ?_); rintro e w5 ⟨a1, c1, rfl, at1, hb5⟩; have hbA : Below w.heap.size w w5 := (by first | exact hbB.trans (hb5.mono hbB.size) | exact ofDrew hb5)))
            | (go_at_call 60; ((with_reducible refine (HY.out _ (by first | exact hdr | exact hbA)).mono ?_); rintro e w6 ⟨a2, c2, rfl, at2, hb6⟩; have hbB : Below w.heap.size w w6 := (by first | exact hbA.trans (hb6.mono hbA.size) | exact ofDrew hb6))))
        all_goals
          go_wp2_with fail
          go_meet
          first
            | exact ⟨a1, c1, a2, c2, rfl, rfl, at1.later rfl hb6, at2, hbB⟩
            | exact ⟨a1, c1, a2, c2, rfl, rfl, at1, at2.later rfl hb5, hbA⟩
      case rest =>
        obtain ⟨a1, c1, a2, c2, rfl, rfl, at1, at2, hbx⟩ := hcut
        have AT1 := Lib.hid at1
        have AT2 := Lib.hid at2
        clear at1 at2 HX HY hdr
        go_wp2_with fail
        go_loopw [5, 6, 7] (fun v x y wr => ∃ (i k : Nat) (acc : List (List UInt8)), i ≤ X.length ∧ k ≤ Y.length ∧ x = .int .i64 i ∧ y = .int .i64 k ∧ acc.length = i + k ∧ Owns wr wc.heap.size 9 v (txts acc) ∧ Hid (mrg X Y = acc ++ mrg (X.drop i) (Y.drop k)) ∧ Below wc.heap.size wc wr) (fun _ x y _ => (X.length - (intOf x).toNat) + (Y.length - (intOf y).toNat))
        case atStart => exact ⟨0, 0, [], Nat.zero_le _, Nat.zero_le _, rfl, rfl, rfl, Owns.nil _ _ _, by simp [Hid], Below.refl _ _⟩
        case round =>
          obtain ⟨i, k, acc, hi, hk, rfl, rfl, hal, hown, hR, hb⟩ := hrel
          have HAL := Lib.hid hal
          have hal2 : acc.length ≤ 4096 := by omega
          have hbs := hb.size
          clear hal
          have hown2 := fun n => hown.later (below_drewN (Below.refl wr.heap.size wr) n)
          by_cases hky : k < Y.length
          · obtain ⟨gy, oy, hay, hcy⟩ := txts_at (AT2.out.later rfl hb) k hky
            subst hay
            have hki : (k : Int) < (Y.length : Int) := by omega
            have hd1 : ((k : Int) == (Y.length : Int)) = false := by simp; omega
            by_cases hix : i < X.length
            · obtain ⟨gx, ox, hax, hcx⟩ := txts_at (AT1.out.later rfl hb) i hix
              subst hax
              have hii : (i : Int) < (X.length : Int) := by omega
              cases hle : leT X[i] Y[k] with
              | true =>
                have HR2 : Hid (mrg X Y = (acc ++ [X[i]]) ++ mrg (X.drop (i + 1)) (Y.drop k)) := by rw [Hid, hR.out, mrg_left hix (.inr ⟨hky, hle⟩)]; simp
                have hle2 : (Op.bytesLess X[i] Y[k] || X[i] == Y[k]) = true := hle
                have HE : Hid (txts (acc ++ [X[i]]) = txts acc ++ [.string ⟨X[i].toArray⟩]) := by simp [Hid, txts]
                clear hle hR
                generalize X[i] = x at *
                generalize Y[k] = y at *
                go_wp2_with fail
                go_quiet (fail)
                go_wp2_with (at_builtin; refine wpList_app1 rfl _ _ _ rfl _ _ _ _ elemStr _ _ _ _ rfl rfl rfl (hown2 _) rfl (by simp; omega) hbs (by simp; omega) ?_; intro v1 w7 hown7 hb7 hs7)
                rw [← HE.out] at hown7
                go_roundw
                case rel => exact ⟨i + 1, k, acc ++ [x], by omega, by omega, by go_num, by go_num, by rw [List.length_append, HAL.out]; simp only [List.length_singleton]; omega, hown7, HR2, (below_drewN hb _).trans hb7⟩
                case measure => simp [intOf]; omega
              | false =>
                have HR2 : Hid (mrg X Y = (acc ++ [Y[k]]) ++ mrg (X.drop i) (Y.drop (k + 1))) := by rw [Hid, hR.out, mrg_right hky (.inr ⟨hix, hle⟩)]; simp
                have hle2 : (Op.bytesLess X[i] Y[k] || X[i] == Y[k]) = false := hle
                have HE : Hid (txts (acc ++ [Y[k]]) = txts acc ++ [.string ⟨Y[k].toArray⟩]) := by simp [Hid, txts]
                clear hle hR
                generalize X[i] = x at *
                generalize Y[k] = y at *
                go_wp2_with fail
                go_quiet (fail)
                go_wp2_with (at_builtin; refine wpList_app1 rfl _ _ _ rfl _ _ _ _ elemStr _ _ _ _ rfl rfl rfl (hown2 _) rfl (by simp; omega) hbs (by simp; omega) ?_; intro v1 w7 hown7 hb7 hs7)
                rw [← HE.out] at hown7
                go_roundw
                case rel => exact ⟨i, k + 1, acc ++ [y], by omega, by omega, by go_num, by go_num, by rw [List.length_append, HAL.out]; simp only [List.length_singleton]; omega, hown7, HR2, (below_drewN hb _).trans hb7⟩
                case measure => simp [intOf]; omega
            · obtain rfl : i = X.length := by omega
              have HR2 : Hid (mrg X Y = (acc ++ [Y[k]]) ++ mrg (X.drop X.length) (Y.drop (k + 1))) := by rw [Hid, hR.out, mrg_right hky (.inl rfl)]; simp
              have HE : Hid (txts (acc ++ [Y[k]]) = txts acc ++ [.string ⟨Y[k].toArray⟩]) := by simp [Hid, txts]
              clear hR hix
              generalize Y[k] = y at *
              have hii : decide ((X.length : Int) < (X.length : Int)) = false := by simp
              go_wp2_with fail
              go_quiet (fail)
              go_wp2_with (at_builtin; refine wpList_app1 rfl _ _ _ rfl _ _ _ _ elemStr _ _ _ _ rfl rfl rfl (hown2 _) rfl (by simp; omega) hbs (by simp; omega) ?_; intro v1 w7 hown7 hb7 hs7)
              rw [← HE.out] at hown7
              go_roundw
              case rel => exact ⟨X.length, k + 1, acc ++ [y], by omega, by omega, by go_num, by go_num, by rw [List.length_append, HAL.out]; simp only [List.length_singleton]; omega, hown7, HR2, (below_drewN hb _).trans hb7⟩
              case measure => simp [intOf]; omega
          · obtain rfl : k = Y.length := by omega
            have hd1 : ((Y.length : Int) == (Y.length : Int)) = true := by simp
            by_cases hix : i < X.length
            · obtain ⟨gx, ox, hax, hcx⟩ := txts_at (AT1.out.later rfl hb) i hix
              subst hax
              have hii : (i : Int) < (X.length : Int) := by omega
              have HR2 : Hid (mrg X Y = (acc ++ [X[i]]) ++ mrg (X.drop (i + 1)) (Y.drop Y.length)) := by rw [Hid, hR.out, mrg_left hix (.inl rfl)]; simp
              have HE : Hid (txts (acc ++ [X[i]]) = txts acc ++ [.string ⟨X[i].toArray⟩]) := by simp [Hid, txts]
              clear hR hky
              generalize X[i] = x at *
              go_wp2_with fail
              go_quiet (fail)
              go_wp2_with (at_builtin; refine wpList_app1 rfl _ _ _ rfl _ _ _ _ elemStr _ _ _ _ rfl rfl rfl (hown2 _) rfl (by simp; omega) hbs (by simp; omega) ?_; intro v1 w7 hown7 hb7 hs7)
              rw [← HE.out] at hown7
              go_roundw
              case rel => exact ⟨i + 1, Y.length, acc ++ [x], by omega, by omega, by go_num, by go_num, by rw [List.length_append, HAL.out]; simp only [List.length_singleton]; omega, hown7, HR2, (below_drewN hb _).trans hb7⟩
              case measure => simp [intOf]; omega
            · obtain rfl : i = X.length := by omega
              have HZ : Hid (Z = acc) := by rw [Hid, HS.out, hR.out, List.drop_length, List.drop_length, mrg, List.append_nil]
              clear hR hky hix hown2
              go_wp2_with fail
              go_ret
              obtain ⟨a, cap', hv⟩ := hown.shape
              simp only [txts, List.length_map] at hv
              rw [hv] at hown
              exact ⟨a, cap', by rw [HZ.out, ← hv]; rfl, by rw [HZ.out]; exact hown.at, hbx.trans (hb.mono hbx.size)⟩
end Go.Proofs.Ythlbplmghjaeoad
