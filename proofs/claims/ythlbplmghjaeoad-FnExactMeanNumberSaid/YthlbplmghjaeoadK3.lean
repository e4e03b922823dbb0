/- Counts by the program: means. -/
import Derived.Test.YthlbplmghjaeoadK2
import Derived.Outline
namespace Go.Proofs.Ythlbplmghjaeoad
open Go.RowKit

set_option maxRecDepth 100000 in
set_option maxHeartbeats 1600000 in
theorem iMeanSum_any (w h m : Int) (ws : World) :
    Calls Try.prog 19 #[.int .i64 w, .int .i64 h, .int .i64 m] ws fun e w' => e = .returned (.tuple #[.int .i64 ((msP w h m).1 : Nat), .int .i64 ((msP w h m).2 : Nat), .bool (msB w h m)]) ∧ Below ws.heap.size ws w' := by
  have h1 := fun wr => isMines_any w h m wr
  cases e1 : msB w h m with
  | false =>
    rw [e1] at h1
    have HM : Hid (msP w h m = (0, 0)) := by rw [Hid, msP, e1]; rfl
    have H1 := Lib.hid h1
    clear h1 e1
    go_enter Try.func19, Try.ntmps19
    go_wp2_with fail
    refine (H1.out _).mono ?_
    rintro e w1 ⟨rfl, rfl⟩
    go_wp2_with fail
    go_ret3
    exact ⟨by rw [HM.out]; rfl, Below.refl _ _⟩
  | true =>
    have e2 := e1
    rw [msB, Bool.and_eq_true] at e2
    rcases sz_case w h 64 with hs | ⟨hs, W, H, rfl, rfl, hW1, hW2, hH1, hH2, hn⟩
    · rw [hs] at e2; exact absurd e2.1 (by decide)
    · have hM : msP W H m = if msB W H m = true then (if W * H = 1 then (0, 1) else lowP (2 * (prsM W H).toNat * m.toNat * (W * H - m.toNat)) (W * H * (W * H - 1))) else (0, 0) := rfl
      rw [e1, if_pos rfl] at hM
      rw [e1] at h1
      have H1 := Lib.hid h1
      clear h1 e1 hs
      have hWH : (W : Int) * (H : Int) = ((W * H : Nat) : Int) := (Int.natCast_mul W H).symm
      rw [hWH] at e2
      obtain ⟨m1, m2⟩ := inB_iff.1 e2.2
      obtain ⟨mm, rfl⟩ : ∃ mm : Nat, m = mm := ⟨m.toNat, by omega⟩
      have hp1 : 1 ≤ W * H := Nat.mul_pos hW1 hH1
      have HP := Lib.hid (pairs_any W H ⟨hW1, hW2⟩ ⟨hH1, hH2⟩)
      obtain ⟨p1, p2⟩ := prsM_range W H ⟨hW1, hW2⟩ ⟨hH1, hH2⟩
      obtain ⟨q, hq⟩ : ∃ q : Nat, prsM W H = q := ⟨(prsM W H).toNat, by omega⟩
      rw [hq] at p1 p2 hM HP
      have c0 : wrap64 ((W : Int) * (H : Int)) = ((W * H : Nat) : Int) := by rw [hWH]; exact IntWalk.wrap64_in _ ⟨by omega, by omega⟩
      have hn64 : W * H ≤ 64 := by omega
      have hone : W * H = 1 → q = 0 := fun h => by
        have hw : W = 1 := by
          rcases Nat.lt_or_ge 1 W with g | g
          · have := Nat.mul_le_mul (show 2 ≤ W from g) hH1; omega
          · omega
        subst hw
        have hh : H = 1 := by omega
        subst hh
        have : prsM ((1 : Nat) : Int) ((1 : Nat) : Int) = 0 := by decide
        omega
      clear e2 hq hWH
      generalize W * H = n at *
      have hmn : mm ≤ n := by omega
      -- the numerator and the denominator
      have hnum : (q : Int) * (2 * mm * (n - mm)) = ((q * (2 * mm * (n - mm)) : Nat) : Int) := by
        rw [Int.natCast_mul, Int.natCast_mul, Int.natCast_mul, Int.natCast_sub hmn]; rfl
      have b1 : 2 * mm ≤ 128 := by omega
      have b2 : 2 * mm * (n - mm) ≤ 128 * 64 := Nat.mul_le_mul b1 (by omega)
      have b3 : q * (2 * mm * (n - mm)) ≤ 256 * (128 * 64) := Nat.mul_le_mul (by omega) b2
      have b4 : n * (n - 1) ≤ 64 * 64 := Nat.mul_le_mul hn64 (by omega)
      have e3 : (n : Int) * (n - 1) = ((n * (n - 1) : Nat) : Int) := by rw [show (n : Int) - 1 = ((n - 1 : Nat) : Int) by omega, ← Int.natCast_mul]
      have e4 : (2 : Int) * mm * (n - mm) = ((2 * mm * (n - mm) : Nat) : Int) := by rw [Int.natCast_mul, Int.natCast_mul, Int.natCast_sub hmn]; rfl
      obtain ⟨num, hnm⟩ : ∃ num, num = q * (2 * mm * (n - mm)) := ⟨_, rfl⟩
      obtain ⟨den, hdn⟩ : ∃ den, den = max (n * (n - 1)) 1 := ⟨_, rfl⟩
      have hd0 : 0 < den := by omega
      have hd1 : den ≤ 64 * 64 := by omega
      have hL := Lib.hid (lowest_any num den hd0 (by omega) (by omega))
      have HM : Hid (msP W H mm = lowP num den) := by
        rw [Hid, hM]
        by_cases h1 : n = 1
        · rw [if_pos h1]
          subst h1
          rw [hnm, hdn, hone rfl, Nat.zero_mul]
          decide
        · rw [if_neg h1, hnm, hdn]
          congr 1
          · rw [Int.toNat_natCast, Int.toNat_natCast, Nat.mul_comm 2 q, Nat.mul_assoc q, Nat.mul_assoc q]
          · have : 1 ≤ n * (n - 1) := Nat.mul_pos (by omega) (by omega)
            omega
      have hA : wrap64 ((q : Int) * wrap64 (2 * (mm : Int) * ((n : Int) - (mm : Int)))) = (num : Int) := by
        rw [e4, hnm]
        generalize 2 * mm * (n - mm) = x at *
        rw [IntWalk.wrap64_in (x : Int) ⟨by omega, by omega⟩, ← Int.natCast_mul]
        exact IntWalk.wrap64_in _ ⟨by omega, by omega⟩
      have hB : max (wrap64 ((n : Int) * ((n : Int) - 1))) 1 = (den : Int) := by
        rw [e3, hdn]
        generalize n * (n - 1) = x at *
        rw [IntWalk.wrap64_in (x : Int) ⟨by omega, by omega⟩]
        omega
      clear hM hnum e3 e4 hone hnm hdn
      generalize lowP num den = lp at *
      obtain ⟨l1, l2⟩ := lp
      go_enter Try.func19, Try.ntmps19
      go_wp2_with fail
      refine (H1.out _).mono ?_
      rintro e w1 ⟨rfl, rfl⟩
      go_wp2_with fail
      refine (HP.out _).mono ?_
      rintro e w1 ⟨rfl, hb1⟩
      go_wp2_with fail
      refine (hL.out _).mono ?_
      rintro e w2 ⟨rfl, hb2⟩
      go_wp2_with fail
      go_ret3
      exact ⟨by rw [HM.out]; rfl, hb1.trans (hb2.mono hb1.size)⟩

set_option maxRecDepth 100000 in
set_option maxHeartbeats 1600000 in
theorem iMeanNumber_any (w h m c : Int) (ws : World) :
    Calls Try.prog 21 #[.int .i64 w, .int .i64 h, .int .i64 m, .int .i64 c] ws fun e w' => e = .returned (.tuple #[.int .i64 ((mqP w h m c).1 : Nat), .int .i64 ((mqP w h m c).2 : Nat), .bool (mqOK w h m c)]) ∧ Below ws.heap.size ws w' := by
  have h1 := fun wr => isMines_any w h m wr
  cases e1 : msB w h m with
  | false =>
    rw [e1] at h1
    have e2 : mqOK w h m c = false := by
      have : mqB w h m c = (msB w h m && inB c 0 (w * h - 1)) := rfl
      rw [mqOK, this, e1]; rfl
    have HM : Hid (mqP w h m c = (0, 0)) := by rw [Hid, mqP, e2]; rfl
    rw [e2]
    have H1 := Lib.hid h1
    clear h1 e1 e2
    go_enter Try.func21, Try.ntmps21
    go_wp2_with fail
    refine (H1.out _).mono ?_
    rintro e w1 ⟨rfl, rfl⟩
    go_wp2_with fail
    go_ret3
    exact ⟨by rw [HM.out]; rfl, Below.refl _ _⟩
  | true =>
    have e2 := e1
    rw [msB, Bool.and_eq_true] at e2
    rcases sz_case w h 64 with hs | ⟨hs, W, H, rfl, rfl, hW1, hW2, hH1, hH2, hn⟩
    · rw [hs] at e2; exact absurd e2.1 (by decide)
    · have hWH : (W : Int) * (H : Int) = ((W * H : Nat) : Int) := (Int.natCast_mul W H).symm
      have hOK : mqOK W H m c = (inB c 0 (((W * H : Nat) : Int) - 1) && !decide (m = ((W * H : Nat) : Int))) := by
        have : mqB W H m c = (msB W H m && inB c 0 ((W : Int) * H - 1)) := rfl
        rw [mqOK, this, e1, hWH]; rfl
      have hM : mqP W H m c = if mqOK W H m c = true then (if W * H = 1 then (0, 1) else lowP ((nearM W (W * H) c.toNat).length * m.toNat) (W * H - 1)) else (0, 0) := rfl
      rw [e1] at h1
      have H1 := Lib.hid h1
      clear h1 e1 hs
      rw [hWH] at e2
      obtain ⟨m1, m2⟩ := inB_iff.1 e2.2
      obtain ⟨mm, rfl⟩ : ∃ mm : Nat, m = mm := ⟨m.toNat, by omega⟩
      have hp1 : 1 ≤ W * H := Nat.mul_pos hW1 hH1
      have hn64 : W * H ≤ 64 := by omega
      have c0 : wrap64 ((W : Int) * (H : Int)) = ((W * H : Nat) : Int) := by rw [hWH]; exact IntWalk.wrap64_in _ ⟨by omega, by omega⟩
      have c1 : IntKind.i64.wrap ((W : Int) * (H : Int)) = ((W * H : Nat) : Int) := by rw [hWH]; exact IntWalk.i64_in _ ⟨by omega, by omega⟩
      have hfg := Lib.hid (fun w => freeGrid_any W H w hW2 hH2)
      have hcl := Lib.hid (fun a cap w => hasCell_any (J := false) W H a (W * H) cap c w)
      have hnb := fun a cap w (hc : 0 ≤ c ∧ c < (W * H : Nat)) => neighbours_any W H a (W * H) cap c.toNat w hW1 (by omega) hn64
      have hone : W * H = 1 → (nearM W 1 c.toNat).length = 0 ∨ ¬ (0 ≤ c ∧ c < ((1 : Nat) : Int)) := fun h => by
        have hw : W = 1 := by
          rcases Nat.lt_or_ge 1 W with g | g
          · have := Nat.mul_le_mul (show 2 ≤ W from g) hH1; omega
          · omega
        subst hw
        by_cases hc : 0 ≤ c ∧ c < ((1 : Nat) : Int)
        · have : c = 0 := by omega
          subst this
          exact .inl (by decide)
        · exact .inr hc
      have HIN : inC (W * H) c = inB c 0 (((W * H : Nat) : Int) - 1) := by
        unfold inC inB; congr 1; rw [decide_eq_decide]; omega
      rw [← HIN] at hOK
      clear e2 hWH HIN
      generalize W * H = n at *
      have HOK := Lib.hid hOK
      by_cases hmn : mm = n
      · have e3 : mqOK W H mm c = false := by rw [hOK]; simp [hmn]
        have HM : Hid (mqP W H mm c = (0, 0)) := by rw [Hid, hM, e3]; rfl
        rw [e3]
        clear hM hOK HOK e3 hone hnb
        subst hmn
        go_enter Try.func21, Try.ntmps21
        go_wp2_with fail
        refine (H1.out _).mono ?_
        rintro e w1 ⟨rfl, rfl⟩
        go_wp2_with fail
        go_ret3
        exact ⟨by rw [HM.out]; rfl, Below.refl _ _⟩
      · have hmn2 : ((mm : Int) == (n : Int)) = false := by simp; omega
        have hmn3 : ¬ (mm : Int) = (n : Int) := by omega
        have hOK2 : mqOK W H mm c = inC n c := by rw [hOK]; simp [hmn3]
        rw [hOK2] at hM ⊢
        cases hic : inC n c with
        | false =>
          have HM : Hid (mqP W H mm c = (0, 0)) := by rw [Hid, hM, hic]; rfl
          rw [hic] at hcl
          clear hM hOK HOK hOK2 hone hnb hic
          go_enter Try.func21, Try.ntmps21
          go_wp2_with fail
          refine (H1.out _).mono ?_
          rintro e w1 ⟨rfl, rfl⟩
          go_wp2_with fail
          refine (hfg.out _).mono ?_
          rintro e w1 ⟨a, cap, rfl, hown, hb1⟩
          clear hown
          go_wp2_with fail
          refine (hcl.out _ _ _).mono ?_
          rintro e w2 ⟨rfl, hb2⟩
          go_wp2_with fail
          go_ret3
          exact ⟨by rw [HM.out]; rfl, (hb1.alloc hb1.size _).trans (hb2.mono (by have := hb1.size; simp; omega))⟩
        | true =>
          rw [hic] at hcl hM
          have hci : 0 ≤ c ∧ c < n := by simpa [inC] using hic
          obtain ⟨cn, rfl⟩ : ∃ cn : Nat, c = cn := ⟨c.toNat, by omega⟩
          have HNB := Lib.hid (fun a cap w => hnb a cap w hci)
          rw [if_pos rfl] at hM
          rw [show ((cn : Int)).toNat = cn from rfl] at hM hone HNB
          have hL64 := nearM_le W n cn
          obtain ⟨L, hL⟩ : ∃ L, (nearM W n cn).length = L := ⟨_, rfl⟩
          have hz : n = 1 → L = 0 := fun h => by
            have := (hone h).resolve_right (fun q => q (by omega))
            rw [← hL, h]; exact this
          rw [hL] at hM HNB hL64
          obtain ⟨num, hnm⟩ : ∃ num, num = mm * L := ⟨_, rfl⟩
          obtain ⟨den, hdn⟩ : ∃ den, den = max (n - 1) 1 := ⟨_, rfl⟩
          have b1 : mm * L ≤ 64 * 64 := Nat.mul_le_mul (by omega) (by omega)
          have hLW := Lib.hid (lowest_any num den (by omega) (by omega) (by omega))
          have HM : Hid (mqP W H mm cn = lowP num den) := by
            rw [Hid, hM]
            by_cases h1 : n = 1
            · rw [if_pos h1, hnm, hdn, hz h1, h1, Nat.mul_zero]
              decide
            · rw [if_neg h1, hnm, hdn]
              congr 1
              · exact Nat.mul_comm _ _
              · omega
          have hA : wrap64 ((mm : Int) * (L : Int)) = (num : Int) := by
            rw [← Int.natCast_mul, hnm]; exact IntWalk.wrap64_in _ ⟨by omega, by omega⟩
          have hB : max ((n : Int) - 1) 1 = (den : Int) := by omega
          clear hM hOK HOK hOK2 hone hnb hic hz hnm hdn b1
          generalize lowP num den = lp at *
          obtain ⟨l1, l2⟩ := lp
          go_enter Try.func21, Try.ntmps21
          go_wp2_with fail
          refine (H1.out _).mono ?_
          rintro e w1 ⟨rfl, rfl⟩
          go_wp2_with fail
          refine (hfg.out _).mono ?_
          rintro e w1 ⟨a, cap, rfl, hown, hb1⟩
          clear hown
          have hb2 : Below ws.heap.size ws (w1.alloc (.cells #[.int .i64 W, .int .i64 H, .slice a n cap, .bool false] 56)) := hb1.alloc hb1.size _
          have hGb := heap_alloc_new w1 (.cells #[.int .i64 W, .int .i64 H, .slice a n cap, .bool false] 56)
          go_wp2_with fail
          refine (hcl.out _ _ _).mono ?_
          rintro e w2 ⟨rfl, hb3⟩
          have hGb2 : w2.heap[w1.heap.size]? = some (.cells #[.int .i64 W, .int .i64 H, .slice a n cap, .bool false] 56 (0, 0)) := (hb3.block _ (by simp)).trans hGb
          have hf0 := cell_of_block hGb2 0
          have hf1 := cell_of_block hGb2 1
          have hf2 := cell_of_block hGb2 2
          have hf3 := cell_of_block hGb2 3
          simp at hf0 hf1 hf2 hf3
          have hb4 : Below ws.heap.size ws w2 := hb2.trans (hb3.mono hb2.size)
          go_wp2_with fail
          refine (HNB.out _ _ _).mono ?_
          rintro e w3 ⟨a', cap', rfl, hown, hb5⟩
          clear hown
          go_wp2_with fail
          refine (hLW.out _).mono ?_
          rintro e w4 ⟨rfl, hb6⟩
          go_wp2_with fail
          go_ret3
          exact ⟨by rw [HM.out]; rfl, (hb4.trans (hb5.mono hb4.size)).trans (hb6.mono (hb4.trans (hb5.mono hb4.size)).size)⟩
end Go.Proofs.Ythlbplmghjaeoad
