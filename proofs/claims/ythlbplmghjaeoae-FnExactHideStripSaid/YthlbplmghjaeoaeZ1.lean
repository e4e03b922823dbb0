/- A list of cells that increases: by the program and by the model. -/
import Derived.Test.YthlbplmghjaeoaeT7
import Derived.Outline
namespace Go.Proofs.Ythlbplmghjaeoae
open Go.RowKit

/-- Does a list increase from behind a number, below another one? -/
def risesM (n last : Int) : List Int → Bool
  | [] => true
  | x :: r => if last < x ∧ x < n then risesM n x r else false
theorem rises_yes {n last x : Int} {r : List Int} (h : last < x ∧ x < n) : risesM n last (x :: r) = risesM n x r := by rw [risesM, if_pos h]
theorem rises_no {n last x : Int} {r : List Int} (h : ¬ (last < x ∧ x < n)) : risesM n last (x :: r) = false := by rw [risesM, if_neg h]
theorem rises_in {n : Int} : ∀ (xs : List Int) (last : Int), -1 ≤ last → risesM n last xs = true → ∀ x ∈ xs, 0 ≤ x ∧ x < n
  | [], _, _, _, _, h => by simp at h
  | y :: r, last, hl, hr, x, hx => by
    by_cases h : last < y ∧ y < n
    · rw [rises_yes h] at hr
      rcases List.mem_cons.1 hx with rfl | hx
      · exact ⟨by omega, h.2⟩
      · exact rises_in r y (by omega) hr x hx
    · rw [rises_no h] at hr; simp at hr

set_option maxRecDepth 100000 in
set_option maxHeartbeats 800000 in
theorem areInc_any (xs : List Int) (n : Int) (a : Option Addr) (cap : Nat) (w : World) (hat : At w a (ints xs)) (hl : xs.length ≤ 1048576) :
    Calls Try.prog 50 #[.slice a xs.length cap, .int .i64 n] w fun e w' => e = .returned (.bool (risesM n (-1) xs)) ∧ w = w' := by
  go_enter Try.func50, Try.ntmps50
  go_wp2_with fail
  go_loop [5, 10] (fun l i => ∃ (k : Nat) (lv : Int), k ≤ xs.length ∧ i = .int .i64 k ∧ l = .int .i64 lv ∧ Hid (risesM n (-1) xs = risesM n lv (xs.drop k))) (fun _ i => xs.length - (intOf i).toNat)
  case atStart => exact ⟨0, -1, Nat.zero_le _, rfl, rfl, by simp [Hid]⟩
  case round =>
    obtain ⟨k, lv, hk, rfl, rfl, hR⟩ := hrel
    by_cases hlt : k < xs.length
    · have Ht := Lib.hid (List.drop_eq_getElem_cons hlt)
      obtain ⟨b, off, he, hc⟩ := ints_at hat k hlt
      subst he
      obtain ⟨x, hx⟩ : ∃ x, xs[k] = x := ⟨_, rfl⟩
      have HX := Lib.hid hx
      rw [hx] at hc
      clear hx
      by_cases h1 : x ≤ lv
      · have Hn : Hid (¬ (lv < x ∧ x < n)) := fun h => by omega
        go_wp2_with fail
        go_ret
        exact ⟨by rw [hR.out, Ht.out, HX.out, rises_no Hn.out]; rfl, rfl⟩
      · by_cases h2 : x ≥ n
        · have Hn : Hid (¬ (lv < x ∧ x < n)) := fun h => by omega
          go_wp2_with fail
          go_ret
          exact ⟨by rw [hR.out, Ht.out, HX.out, rises_no Hn.out]; rfl, rfl⟩
        · have Hn : Hid (lv < x ∧ x < n) := ⟨by omega, by omega⟩
          go_wp2_with fail
          go_round
          case rel => exact ⟨k + 1, x, by omega, by go_num, rfl, by rw [Hid, hR.out, Ht.out, HX.out, rises_yes Hn.out]⟩
          case measure => simp [intOf]; omega
    · obtain rfl : k = xs.length := by omega
      go_wp2_with fail
      go_ret
      exact ⟨by rw [hR.out]; simp [risesM], rfl⟩

set_option maxRecDepth 100000 in
set_option maxHeartbeats 800000 in
theorem l1Rising_any (xs : List Int) (n h : Int) (hn : n = h + 1) (a : Option Addr) (cap : Nat) (w : World) (hat : At w a (ints xs)) (hl : xs.length ≤ 1048576) :
    Calls Try.prog 46 #[.slice a xs.length cap, .int .i64 0, .int .i64 h] w fun e w' => e = .returned (.bool (risesM n (-1) xs)) ∧ w = w' := by
  subst hn
  go_enter Try.func46, Try.ntmps46
  go_wp2_with fail
  go_loop [11] (fun i => ∃ (k : Nat) (lv : Int), k ≤ xs.length ∧ i = .int .i64 k ∧ Hid ((k = 0 ∧ lv = -1) ∨ (∃ m, k = m + 1 ∧ xs[m]? = some lv ∧ 0 ≤ lv)) ∧ Hid (risesM (h + 1) (-1) xs = risesM (h + 1) lv (xs.drop k))) (fun i => xs.length - (intOf i).toNat)
  case atStart => exact ⟨0, -1, Nat.zero_le _, rfl, .inl ⟨rfl, rfl⟩, by simp [Hid]⟩
  case round =>
    obtain ⟨k, lv, hk, rfl, hV, hR⟩ := hrel
    by_cases hlt : k < xs.length
    · have Ht := Lib.hid (List.drop_eq_getElem_cons hlt)
      obtain ⟨b, off, he, hc⟩ := ints_at hat k hlt
      subst he
      have hx? : Hid (xs[k]? = some xs[k]) := List.getElem?_eq_getElem hlt
      obtain ⟨x, hx⟩ : ∃ x, xs[k] = x := ⟨_, rfl⟩
      have HX := Lib.hid hx
      have HX? : Hid (xs[k]? = some x) := by rw [Hid, hx?.out, hx]
      rw [hx] at hc
      clear hx hx?
      have hlv : Hid (-1 ≤ lv) := by
        rcases hV.out with ⟨_, rfl⟩ | ⟨m, _, _, h0⟩
        · exact Int.le_refl _
        · show -1 ≤ lv; omega
      by_cases h1 : 0 ≤ x ∧ x ≤ h
      · have d1 : inB x 0 h = true := by simp [inB]; omega
        obtain ⟨x0, xh⟩ := h1
        rcases hV.out with ⟨rfl, rfl⟩ | ⟨m, rfl, hm, h0⟩
        · have Hn : Hid (-1 < x ∧ x < h + 1) := ⟨by omega, by omega⟩
          simp only [Nat.add_zero] at hc
          clear hV hlv
          go_wp2_with (go_at_call 34; refine (l1In_any _ _ _ _).mono ?_; rintro e w' ⟨rfl, rfl⟩)
          go_round
          case rel => exact ⟨0 + 1, x, by omega, by go_num, .inr ⟨0, rfl, HX?.out, x0⟩, by rw [Hid, hR.out, Ht.out, HX.out, rises_yes Hn.out]⟩
          case measure => simp [intOf]; omega
        · have hmlt : m < xs.length := by omega
          obtain ⟨b2, off2, he2, hc2⟩ := ints_at hat m hmlt
          simp only [Option.some.injEq, Addr.mk.injEq, and_true] at he2
          obtain ⟨rfl, rfl⟩ := he2
          have hm' : Hid (xs[m] = lv) := by
            rw [List.getElem?_eq_getElem hmlt] at hm
            exact Option.some.inj hm
          rw [hm'.out] at hc2
          have HM := Lib.hid hm
          clear hm hV hlv
          by_cases h2 : lv ≥ x
          · have Hn : Hid (¬ (lv < x ∧ x < h + 1)) := fun q => by omega
            go_wp2_with (go_at_call 34; refine (l1In_any _ _ _ _).mono ?_; rintro e w' ⟨rfl, rfl⟩)
            go_ret
            exact ⟨by rw [hR.out, Ht.out, HX.out, rises_no Hn.out]; rfl, rfl⟩
          · have Hn : Hid (lv < x ∧ x < h + 1) := ⟨by omega, by omega⟩
            go_wp2_with (go_at_call 34; refine (l1In_any _ _ _ _).mono ?_; rintro e w' ⟨rfl, rfl⟩)
            go_round
            case rel => exact ⟨m + 1 + 1, x, by omega, by go_num, .inr ⟨m + 1, rfl, HX?.out, x0⟩, by rw [Hid, hR.out, Ht.out, HX.out, rises_yes Hn.out]⟩
            case measure => simp [intOf]; omega
      · have d1 : inB x 0 h = false := by simp [inB]; omega
        have Hn : Hid (¬ (lv < x ∧ x < h + 1)) := fun q => h1 ⟨by have := hlv.out; omega, by omega⟩
        clear h1 hV hlv
        go_wp2_with (go_at_call 34; refine (l1In_any _ _ _ _).mono ?_; rintro e w' ⟨rfl, rfl⟩)
        go_ret
        exact ⟨by rw [hR.out, Ht.out, HX.out, rises_no Hn.out]; rfl, rfl⟩
    · obtain rfl : k = xs.length := by omega
      clear hV
      go_wp2_with fail
      go_ret
      exact ⟨by rw [hR.out]; simp [risesM], rfl⟩
end Go.Proofs.Ythlbplmghjaeoae
