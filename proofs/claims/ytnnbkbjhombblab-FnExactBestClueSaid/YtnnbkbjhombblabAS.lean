/- The clue that the fewest boards fit, by the program. -/
import Derived.Test.YtnnbkbjhombblabAQ
namespace Go.Proofs.Ytnnbkbjhombblab
open Go.RowKit

/-- The first index of the least of some numbers, as the model keeps it: behind so many of them. -/
def bstK (ns : List Int) : Nat → Nat × Int
  | 0 => (0, 0)
  | k + 1 => if k = 0 ∨ ns.getD k 0 < (bstK ns k).2 then (k, ns.getD k 0) else bstK ns k
theorem bstK_spec (ns : List Int) : ∀ k, 0 < k → k ≤ ns.length → (bstK ns k).1 < k ∧ ns.getD (bstK ns k).1 0 = (bstK ns k).2 ∧ (∀ i, i < k → (bstK ns k).2 ≤ ns.getD i 0) ∧ ∀ i, i < (bstK ns k).1 → (bstK ns k).2 < ns.getD i 0
  | 0, h, _ => by omega
  | k + 1, _, hl => by
    rw [bstK]
    by_cases h0 : k = 0
    · subst h0
      simp
    · obtain ⟨h1, h2, h3, h4⟩ := bstK_spec ns k (by omega) (by omega)
      by_cases hc : ns.getD k 0 < (bstK ns k).2
      · rw [if_pos (.inr hc)]
        refine ⟨by simp, rfl, fun i hi => ?_, fun i hi => ?_⟩
        · by_cases hik : i = k
          · subst hik; exact Int.le_refl _
          · have := h3 i (by omega); simp only; omega
        · have := h3 i hi; simp only; omega
      · rw [if_neg (by omega)]
        refine ⟨by omega, h2, fun i hi => ?_, h4⟩
        by_cases hik : i = k
        · subst hik; omega
        · exact h3 i (by omega)
/-- Which index it is. -/
theorem bstK_is (ns : List Int) (m : Int) (j : Nat) (hj : j < ns.length) (hm : ns.getD j 0 = m) (hle : ∀ i, i < ns.length → m ≤ ns.getD i 0) (hfirst : ∀ i, i < j → ns.getD i 0 ≠ m) : (bstK ns ns.length).1 = j := by
  obtain ⟨h1, h2, h3, h4⟩ := bstK_spec ns ns.length (by omega) (Nat.le_refl _)
  have hlm : (bstK ns ns.length).2 = m := by
    have a := h3 j hj
    have b := hle (bstK ns ns.length).1 h1
    omega
  rcases Nat.lt_trichotomy (bstK ns ns.length).1 j with h | h | h
  · exact absurd (h2.trans hlm) (hfirst _ h)
  · exact h
  · have := h4 j h; omega
set_option maxRecDepth 100000 in
set_option maxHeartbeats 800000 in
theorem minI_any (ns : List Int) (a : Option Addr) (cap : Nat) (w : World) (hat : At w a (ints ns)) (h0 : 0 < ns.length) (hl : ns.length ≤ 1048576) :
    Calls Try.prog 35 #[.slice a ns.length cap] w fun e w' => (∃ m : Int, e = .returned (.int .i64 m) ∧ (∃ j, j < ns.length ∧ ns.getD j 0 = m) ∧ ∀ i, i < ns.length → m ≤ ns.getD i 0) ∧ w = w' := by
  have hl1 : ¬ ((ns.length : Int) < 1) := by omega
  go_enter Try.func35, Try.ntmps35
  obtain ⟨g, off, rfl, hc0⟩ := ints_at hat 0 h0
  have hlp : (0 : Int) < (ns.length : Int) := by omega
  simp only [Nat.add_zero] at hc0
  have hz : ns[0] = ns.getD 0 0 := by simp [h0]
  rw [hz] at hc0
  generalize hg0 : ns.getD 0 0 = x0 at hc0
  have HG0 := Lib.hid hg0
  clear hg0 hz
  go_wp2_with fail
  go_loop [3, 4] (fun v i => ∃ (k : Nat) (m : Int), 1 ≤ k ∧ k ≤ ns.length ∧ v = .int .i64 m ∧ i = .int .i64 k ∧ Hid ((∃ j, j < k ∧ ns.getD j 0 = m) ∧ ∀ i, i < k → m ≤ ns.getD i 0)) (fun _ i => ns.length - (intOf i).toNat)
  case atStart => exact ⟨1, x0, Nat.le_refl _, h0, rfl, rfl, ⟨0, by omega, HG0.out⟩, fun i hi => by
    have hi0 : i = 0 := by omega
    subst hi0
    exact Int.le_of_eq HG0.out.symm⟩
  case round =>
    obtain ⟨k, m, hk1, hk, rfl, rfl, hR⟩ := hrel
    by_cases hlt : k < ns.length
    · obtain ⟨g', off', hgo, hc⟩ := ints_at hat k hlt
      obtain ⟨rfl, rfl⟩ : g = g' ∧ off = off' := by simpa using hgo
      have hx : ns[k] = ns.getD k 0 := by simp [hlt]
      rw [hx] at hc
      generalize hgx : ns.getD k 0 = x at hc
      have HGX := Lib.hid hgx
      clear hgx hx hgo
      go_wp2_with fail
      go_round
      case rel =>
        refine ⟨k + 1, min m x, by omega, by omega, rfl, by go_num, ?_⟩
        obtain ⟨⟨j, hj, hjm⟩, hle⟩ := hR.out
        refine ⟨?_, fun i hi => ?_⟩
        · by_cases hmx : m ≤ x
          · exact ⟨j, by omega, by rw [hjm]; omega⟩
          · exact ⟨k, by omega, by rw [HGX.out]; omega⟩
        · by_cases hik : i = k
          · subst hik; rw [HGX.out]; omega
          · have := hle i (by omega); omega
      case measure => simp [intOf]; omega
    · obtain rfl : k = ns.length := by omega
      go_wp2_with fail
      go_ret
      exact ⟨⟨m, rfl, hR.out⟩, rfl⟩
set_option maxRecDepth 100000 in
set_option maxHeartbeats 800000 in
theorem indexM_any (ns : List Int) (c : Int) (a : Option Addr) (cap : Nat) (w : World) (hat : At w a (ints ns)) (hl : ns.length ≤ 1048576) (hex : ∃ j, j < ns.length ∧ ns.getD j 0 = c) :
    Calls Try.prog 34 #[.slice a ns.length cap, .int .i64 c] w fun e w' => (∃ k : Nat, e = .returned (.int .i64 k) ∧ k < ns.length ∧ ns.getD k 0 = c ∧ ∀ i, i < k → ns.getD i 0 ≠ c) ∧ w = w' := by
  go_enter Try.func34, Try.ntmps34
  go_wp2_with fail
  go_loop [8] (fun i => ∃ k : Nat, k ≤ ns.length ∧ i = .int .i64 k ∧ Hid (∀ i, i < k → ns.getD i 0 ≠ c)) (fun i => ns.length - (intOf i).toNat)
  case atStart => exact ⟨0, Nat.zero_le _, rfl, fun i hi => by omega⟩
  case round =>
    obtain ⟨k, hk, rfl, hR⟩ := hrel
    by_cases hlt : k < ns.length
    · obtain ⟨g, off, rfl, hc⟩ := ints_at hat k hlt
      have hx : ns[k] = ns.getD k 0 := by simp [hlt]
      rw [hx] at hc
      generalize hgx : ns.getD k 0 = x at hc
      have HGX := Lib.hid hgx
      clear hgx hx
      by_cases hcx : c = x
      · subst hcx
        have hd : (c == c) = true := by simp
        go_wp2_with fail
        go_ret
        exact ⟨⟨k, rfl, hlt, HGX.out, hR.out⟩, rfl⟩
      · have hd : (c == x) = false := by simpa using hcx
        have HCX := Lib.hid hcx
        clear hcx
        go_wp2_with fail
        go_round
        case rel => exact ⟨k + 1, by omega, by go_num, fun i hi => by
          by_cases hik : i = k
          · subst hik; rw [HGX.out]; exact fun e => HCX.out e.symm
          · exact hR.out i (by omega)⟩
        case measure => simp [intOf]; omega
    · obtain ⟨j, hj, hjc⟩ := hex
      exact absurd hjc (hR.out j (by omega))
/-- The index of the clue that alone the fewest boards fit; 0 where there is none. -/
def bcN (x y : Int) (cs : List Clu) : Nat := if pzB x y cs = true then (bstK (aloneC x.toNat y.toNat cs) (aloneC x.toNat y.toNat cs).length).1 else 0
/-- Is there one? -/
def bcB (x y : Int) (cs : List Clu) : Bool := pzB x y cs && !cs.isEmpty
theorem bc_no {x y : Int} {cs : List Clu} (h : pzB x y cs = false) : bcN x y cs = 0 ∧ bcB x y cs = false := by simp [bcN, bcB, h]
theorem bc_nil {x y : Int} : bcN x y [] = 0 ∧ bcB x y [] = false := by simp [bcN, bcB, aloneC, bstK]
theorem bc_yes {W H : Nat} {cs : List Clu} (h : pzB W H cs = true) (h0 : 0 < cs.length) : bcN W H cs = (bstK (aloneC W H cs) cs.length).1 ∧ bcB W H cs = true := by
  refine ⟨by simp [bcN, h, aloneC], ?_⟩
  cases cs with
  | nil => simp at h0
  | cons c r => simp [bcB, h]
set_option maxRecDepth 100000 in
theorem countAlone_nil (x y : Int) (w : World) :
    Calls Try.prog 33 #[.agg #[.int .i64 x, .int .i64 y, .slice none 0 0]] w fun e w' => e = .returned (.slice none 0 0) ∧ Below w.heap.size w w' := by
  have hb : Below w.heap.size w (w.alloc (.cells #[.int .i64 x, .int .i64 y, .slice none 0 0] 30)) := (Below.refl _ _).alloc (Nat.le_refl _) _
  go_enter Try.func33, Try.ntmps33
  go_wp2_with fail
  go_loopw [3, 8] (fun v i wr => v = .slice none 0 0 ∧ i = .int .i64 0 ∧ Below w.heap.size w wr) (fun _ _ _ => 0)
  case atStart => exact ⟨rfl, rfl, hb⟩
  case round =>
    obtain ⟨rfl, rfl, hbr⟩ := hrel
    go_wp2_with fail
    go_ret
    exact ⟨rfl, hbr⟩
set_option maxRecDepth 100000 in
set_option maxHeartbeats 1600000 in
theorem iBest_any (x y : Int) (a : Option Addr) (n cap : Nat) (cs : List Clu) (w : World) (hn : n = cs.length) (hat : At w a (flatC cs)) :
    Calls Try.prog 11 #[.agg #[.int .i64 x, .int .i64 y, .slice a n cap]] w fun e w' => e = .returned (.tuple #[.int .i64 (bcN x y cs : Nat), .bool (bcB x y cs)]) ∧ Below w.heap.size w w' := by
  subst hn
  have hb : Below w.heap.size w (w.alloc (.cells #[.int .i64 x, .int .i64 y, .slice a cs.length cap] 30)) := (Below.refl _ _).alloc (Nat.le_refl _) _
  have hat1 := hat.later rfl hb
  cases h : pzB x y cs with
  | false =>
    have HN := Lib.hid (bc_no h)
    have HR := Lib.hid (fun w hat => readP_no x y a cs.length cap cs w rfl hat h)
    have HA := Lib.hid (fun w => countAlone_nil 0 0 w)
    clear h
    go_enter Try.func11, Try.ntmps11
    go_wp2_with fail
    refine (HR.out _ hat1).mono ?_
    rintro e w1 ⟨rfl, hb1⟩
    have hb2 := hb.trans (hb1.mono hb.size)
    have hb3 := hb2.alloc hb2.size (.cells #[.int .i64 0, .int .i64 0, .slice none 0 0] 30)
    clear hb hb1 hat1 hat hb2
    go_wp2_with fail
    refine (HA.out _).mono ?_
    rintro e w2 ⟨rfl, hb4⟩
    have hb5 := hb3.trans (hb4.mono hb3.size)
    clear hb3 hb4
    go_wp2_with fail
    go_ret2
    exact ⟨by rw [HN.out.1, HN.out.2]; rfl, hb5⟩
  | true =>
    obtain ⟨W, H, rfl, rfl, hW, hH, h9, hs, h8, hc⟩ := pz_yes h
    have HR := Lib.hid (fun w hat => readP_yes W H a cs.length cap cs w hW hH hs rfl h8 hc hat)
    have HA := Lib.hid (fun B n' cap' a' w hR => countAlone_any W H B n' cap' a' cs w hW hH h9 h8 hc hR)
    have HY := Lib.hid (fun h0 => bc_yes (W := W) (H := H) (cs := cs) h h0)
    clear h hs hc
    go_enter Try.func11, Try.ntmps11
    go_wp2_with fail
    refine (HR.out _ hat1).mono ?_
    rintro e w1 ⟨v1, rfl, hR1, hb1⟩
    obtain ⟨a1, c1, hv⟩ := hR1.shape
    subst hv
    have hb2 := hb.trans (hb1.mono hb.size)
    have hbx : Below w1.heap.size w1 (w1.alloc (.cells #[.int .i64 W, .int .i64 H, .slice a1 cs.length c1] 30)) := (Below.refl _ _).alloc (Nat.le_refl _) _
    have hR2 := hR1.below hbx
    have hb3 := hb2.trans (hbx.mono hb2.size)
    clear hb hb1 hat1 hat hb2 hbx hR1
    go_wp2_with fail
    refine (HA.out _ _ _ _ _ hR2).mono ?_
    rintro e w2 ⟨a2, c2, rfl, hown, hb4⟩
    have hb5 := hb3.trans (hb4.mono hb3.size)
    clear hb3 hb4 hR2
    by_cases h0 : cs.length = 0
    · obtain rfl : cs = [] := List.eq_nil_of_length_eq_zero h0
      clear HY hown
      simp only [List.length_nil]
      go_wp2_with fail
      go_ret2
      exact ⟨by rw [bc_nil.1, bc_nil.2]; rfl, hb5⟩
    · have HY2 := Lib.hid (HY.out (by omega))
      have hal : (aloneC W H cs).length = cs.length := by simp [aloneC]
      have hat5 := hown.at
      have hne : ¬ ((cs.length : Int) = 0) := by omega
      have HM := Lib.hid (fun w hat => minI_any (aloneC W H cs) a2 c2 w hat (by omega) (by omega))
      have HI := Lib.hid (fun c w hat hex => indexM_any (aloneC W H cs) c a2 c2 w hat (by omega) hex)
      have HB := Lib.hid (fun m j hj hm hle hf => bstK_is (aloneC W H cs) m j hj hm hle hf)
      rw [hal] at HM HI HB
      generalize aloneC W H cs = ns at *
      clear HY hown
      go_wp2_with fail
      refine (HM.out _ hat5).mono ?_
      rintro e w3 ⟨⟨m, rfl, hex, hle⟩, rfl⟩
      go_wp2_with fail
      refine (HI.out m _ hat5 hex).mono ?_
      rintro e w3 ⟨⟨k, rfl, hk, hkm, hkf⟩, rfl⟩
      go_wp2_with fail
      go_ret2
      exact ⟨by rw [HY2.out.1, HY2.out.2, HB.out m k hk hkm hle hkf]; rfl, hb5⟩
end Go.Proofs.Ytnnbkbjhombblab
