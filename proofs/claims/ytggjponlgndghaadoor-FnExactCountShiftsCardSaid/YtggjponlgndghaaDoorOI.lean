/- Joined boards: ShiftBoard, by the model and by the program. -/
import Derived.Test.YtggjponlgndghaaDoorOH
import Derived.Test.YtggjponlgndghaaDoorO6
namespace Go.Proofs.YtggjponlgndghaaDoor
open Go.RowKit

def shOK (l : List UInt8) (r d : Int) : Bool := joB l && (decide (0 ≤ r ∧ r < gW l) && decide (0 ≤ d ∧ d < gH l))
def shT (l : List UInt8) (r d : Int) : List UInt8 := if shOK l r d = true then textM (shM (gW l) (gH l) r.toNat d.toNat (gCells l)) (gW l) (gH l) else []
theorem shOK_no {l : List UInt8} {r d : Int} (h : shOK l r d = false) : shT l r d = [] := by rw [shT, h]; rfl
theorem shOK_cases (l : List UInt8) (r d : Int) : joB l = false ∨ (joB l = true ∧ ¬ (0 ≤ r ∧ r < gW l)) ∨ (joB l = true ∧ (0 ≤ r ∧ r < gW l) ∧ ¬ (0 ≤ d ∧ d < gH l)) ∨ (joB l = true ∧ (∃ k : Nat, r = k ∧ k < gW l) ∧ ∃ k : Nat, d = k ∧ k < gH l) := by
  cases h : joB l with
  | false => exact .inl rfl
  | true =>
    right
    by_cases h1 : 0 ≤ r ∧ r < gW l
    · right
      by_cases h2 : 0 ≤ d ∧ d < gH l
      · right; exact ⟨rfl, ⟨r.toNat, by omega, by omega⟩, d.toNat, by omega, by omega⟩
      · left; exact ⟨rfl, h1, h2⟩
    · left; exact ⟨rfl, h1⟩
theorem shOK_of {l : List UInt8} {r d : Int} (hj : joB l = true) : shOK l r d = (decide (0 ≤ r ∧ r < gW l) && decide (0 ≤ d ∧ d < gH l)) := by rw [shOK, hj, Bool.true_and]

set_option maxRecDepth 100000 in
set_option maxHeartbeats 800000 in
theorem sShiftBoard_any (l : List UInt8) (r d : Int) (w : World) (hl : l.length ≤ 1048576) :
    Calls Tryd.prog 24 #[.string ⟨l.toArray⟩, .int .i64 r, .int .i64 d] w fun e w' => e = .returned (.tuple #[.string ⟨(shT l r d).toArray⟩, .bool (shOK l r d)]) ∧ Below w.heap.size w w' := by
  have HG := Lib.hid (fun w => joGood_any l w hl)
  have HS := Lib.hid (fun w => boSize_any l w hl)
  rcases shOK_cases l r d with h | ⟨h, h1⟩ | ⟨h, h1, h2⟩ | ⟨h, ⟨kr, rfl, hr⟩, kd, rfl, hd⟩
  · rw [h] at HG
    have HN : Hid (shOK l r d = false) := by rw [Hid, shOK, h]; rfl
    have HT := Lib.hid (shOK_no HN.out)
    clear h
    go_enter Tryd.func24, Tryd.ntmps24
    go_wp2_with fail
    refine (HG.out _).mono ?_
    rintro e w1 ⟨rfl, hb1⟩
    go_wp2_with fail
    go_ret2
    exact ⟨by rw [HN.out, HT.out]; rfl, hb1⟩
  · have hB := Brd.g (joB_good h)
    rw [hB.size] at HS
    rw [h] at HG
    have HN : Hid (shOK l r d = false) := by rw [Hid, shOK_of h, decide_eq_false h1]; rfl
    have HT := Lib.hid (shOK_no HN.out)
    have h8 := hB.w8
    have hw1 := hB.w1
    have HI : Hid (inB r 0 ((gW l : Int) - 1) = false) := by
      simp only [Hid, inB]
      rw [← Bool.not_eq_true, Bool.and_eq_true, decide_eq_true_eq, decide_eq_true_eq]
      omega
    clear h hB h1
    generalize gW l = W at *
    go_enter Tryd.func24, Tryd.ntmps24
    go_wp2_with fail
    refine (HG.out _).mono ?_
    rintro e w1 ⟨rfl, hb1⟩
    go_wp2_with fail
    refine (HS.out _).mono ?_
    rintro e w2 ⟨rfl, hb2⟩
    go_wp2_with (go_at_call 47; refine (l1In_any _ _ _ _).mono ?_; rw [HI.out]; rintro e w' ⟨rfl, rfl⟩)
    go_ret2
    exact ⟨by rw [HN.out, HT.out]; rfl, hb1.trans (hb2.mono hb1.size)⟩
  · have hB := Brd.g (joB_good h)
    rw [hB.size] at HS
    rw [h] at HG
    have HN : Hid (shOK l r d = false) := by rw [Hid, shOK_of h, decide_eq_false h2, Bool.and_false]
    have HT := Lib.hid (shOK_no HN.out)
    have h8 := hB.w8
    have hw1 := hB.w1
    have hh8 := hB.h8
    have hh1 := hB.h1
    have HI : Hid (inB r 0 ((gW l : Int) - 1) = true) := by
      simp only [Hid, inB, Bool.and_eq_true, decide_eq_true_eq]
      omega
    have HI2 : Hid (inB d 0 ((gH l : Int) - 1) = false) := by
      simp only [Hid, inB]
      rw [← Bool.not_eq_true, Bool.and_eq_true, decide_eq_true_eq, decide_eq_true_eq]
      omega
    clear h hB h1 h2
    generalize gW l = W at *
    generalize gH l = H at *
    go_enter Tryd.func24, Tryd.ntmps24
    go_wp2_with fail
    refine (HG.out _).mono ?_
    rintro e w1 ⟨rfl, hb1⟩
    go_wp2_with fail
    refine (HS.out _).mono ?_
    rintro e w2 ⟨rfl, hb2⟩
    go_wp2_with (first
      | (go_at_call 47; refine (l1In_any _ _ _ _).mono ?_; rw [HI.out]; rintro e w' ⟨rfl, rfl⟩)
      | (go_at_call 47; refine (l1In_any _ _ _ _).mono ?_; rw [HI2.out]; rintro e w' ⟨rfl, rfl⟩))
    go_ret2
    exact ⟨by rw [HN.out, HT.out]; rfl, hb1.trans (hb2.mono hb1.size)⟩
  · have hB := Brd.g (joB_good h)
    rw [hB.size] at HS
    rw [h] at HG
    have HN : Hid (shOK l (kr : Int) (kd : Int) = true) := by rw [Hid, shOK_of h]; simp; omega
    have HJ := Lib.hid (fun w => joShift_any l kr kd w hl h hr hd)
    have hz := joB_sizes h
    rw [shM_eq ⟨hz.1, hB.w8⟩ ⟨hz.2, hB.h8⟩ hB.len hr hd] at HJ
    have HT : Hid (shT l (kr : Int) (kd : Int) = textM (shM (gW l) (gH l) kr kd (gCells l)) (gW l) (gH l)) := by rw [Hid, shT, if_pos HN.out]; rfl
    have h8 := hB.w8
    have hw1 := hB.w1
    have hh8 := hB.h8
    have hh1 := hB.h1
    have HI : Hid (inB (kr : Int) 0 ((gW l : Int) - 1) = true) := by
      simp only [Hid, inB, Bool.and_eq_true, decide_eq_true_eq]
      omega
    have HI2 : Hid (inB (kd : Int) 0 ((gH l : Int) - 1) = true) := by
      simp only [Hid, inB, Bool.and_eq_true, decide_eq_true_eq]
      omega
    rw [← HT.out] at HJ
    clear h hB hr hd hz
    generalize shT l (kr : Int) (kd : Int) = T at *
    generalize gW l = W at *
    generalize gH l = H at *
    go_enter Tryd.func24, Tryd.ntmps24
    go_wp2_with fail
    refine (HG.out _).mono ?_
    rintro e w1 ⟨rfl, hb1⟩
    go_wp2_with fail
    refine (HS.out _).mono ?_
    rintro e w2 ⟨rfl, hb2⟩
    go_wp2_with (first
      | (go_at_call 47; refine (l1In_any _ _ _ _).mono ?_; rw [HI.out]; rintro e w' ⟨rfl, rfl⟩)
      | (go_at_call 47; refine (l1In_any _ _ _ _).mono ?_; rw [HI2.out]; rintro e w' ⟨rfl, rfl⟩)
      | (go_at_call 48; refine (HJ.out _).mono ?_; rintro e w3 ⟨rfl, hb3⟩))
    go_ret2
    exact ⟨by rw [HN.out]; rfl, (hb1.trans (hb2.mono hb1.size)).trans (hb3.mono (by have := hb1.size; have := hb2.size; omega))⟩

set_option maxRecDepth 100000 in
set_option maxHeartbeats 800000 in
theorem iShiftBoard_any (l : List UInt8) (r d : Int) (w : World) (hM : HasMax w) (hl : l.length ≤ 1048576) :
    Calls Tryd.prog 25 #[.string ⟨l.toArray⟩, .int .i64 r, .int .i64 d] w fun e w' => e = .returned (.tuple #[.string ⟨(shT l r d).toArray⟩, .bool (shOK l r d)]) ∧ Below w.heap.size w w' := by
  have HRJ := Lib.hid (readJoined_any l w hM hl)
  rcases shOK_cases l r d with h | ⟨h, h1⟩ | ⟨h, h1, h2⟩ | ⟨h, ⟨kr, rfl, hr⟩, kd, rfl, hd⟩
  · rw [h] at HRJ
    have HN : Hid (shOK l r d = false) := by rw [Hid, shOK, h]; rfl
    have HT := Lib.hid (shOK_no HN.out)
    clear h
    go_enter Tryd.func25, Tryd.ntmps25
    go_wp2_with fail
    refine HRJ.out.mono ?_
    rintro e w1 ⟨a, cap, rfl, hown, hb⟩
    go_wp2_with fail
    go_ret2
    exact ⟨by rw [HN.out, HT.out]; rfl, hb.alloc hb.size _⟩
  · have e1 := (jC_yes h).2.1
    have e2 := (jC_yes h).2.2
    rw [h] at HRJ
    have HN : Hid (shOK l r d = false) := by rw [Hid, shOK_of h, decide_eq_false h1]; rfl
    have HT := Lib.hid (shOK_no HN.out)
    have h8 := jW_le l
    clear h
    by_cases h0 : r < 0
    · have d0 : decide (r < 0) = true := by simpa using h0
      go_enter Tryd.func25, Tryd.ntmps25
      go_wp2_with fail
      refine HRJ.out.mono ?_
      rintro e w1 ⟨a, cap, rfl, hown, hb⟩
      go_wp2_with fail
      go_ret2
      exact ⟨by rw [HN.out, HT.out]; rfl, hb.alloc hb.size _⟩
    · have d0 : decide (r < 0) = false := by simpa using h0
      have d1 : decide (r ≥ (jW l : Int)) = true := by rw [e1]; simp; omega
      go_enter Tryd.func25, Tryd.ntmps25
      go_wp2_with fail
      refine HRJ.out.mono ?_
      rintro e w1 ⟨a, cap, rfl, hown, hb⟩
      go_wp2_with fail
      go_ret2
      exact ⟨by rw [HN.out, HT.out]; rfl, hb.alloc hb.size _⟩
  · have e1 := (jC_yes h).2.1
    have e2 := (jC_yes h).2.2
    rw [h] at HRJ
    have HN : Hid (shOK l r d = false) := by rw [Hid, shOK_of h, decide_eq_false h2, Bool.and_false]
    have HT := Lib.hid (shOK_no HN.out)
    have d0 : decide (r < 0) = false := by simp; omega
    have d1 : decide (r ≥ (jW l : Int)) = false := by rw [e1]; simp; omega
    clear h
    by_cases h0 : d < 0
    · have d2 : decide (d < 0) = true := by simpa using h0
      go_enter Tryd.func25, Tryd.ntmps25
      go_wp2_with fail
      refine HRJ.out.mono ?_
      rintro e w1 ⟨a, cap, rfl, hown, hb⟩
      go_wp2_with fail
      go_ret2
      exact ⟨by rw [HN.out, HT.out]; rfl, hb.alloc hb.size _⟩
    · have d2 : decide (d < 0) = false := by simpa using h0
      have d3 : decide (d ≥ (jH l : Int)) = true := by rw [e2]; simp; omega
      go_enter Tryd.func25, Tryd.ntmps25
      go_wp2_with fail
      refine HRJ.out.mono ?_
      rintro e w1 ⟨a, cap, rfl, hown, hb⟩
      go_wp2_with fail
      go_ret2
      exact ⟨by rw [HN.out, HT.out]; rfl, hb.alloc hb.size _⟩
  · have hB := Brd.g (joB_good h)
    obtain ⟨ec, e1, e2⟩ := jC_yes h
    rw [h] at HRJ
    have HN : Hid (shOK l (kr : Int) (kd : Int) = true) := by rw [Hid, shOK_of h]; simp; omega
    have HT : Hid (textM (shM (gW l) (gH l) kr kd (gCells l)) (gW l) (gH l) = shT l (kr : Int) (kd : Int)) := by rw [Hid, shT, if_pos HN.out]; rfl
    have d0 : decide ((kr : Int) < 0) = false := by simp
    have d1 : decide (gW l ≤ kr) = false := by simp; omega
    have d2 : decide ((kd : Int) < 0) = false := by simp
    have d3 : decide (gH l ≤ kd) = false := by simp; omega
    have hlen := shM_length (r := kr) (d := kd) hB.w1 hB.len
    have HSH := Lib.hid (fun a cap w' hat hcap => shifted_any (gW l) (gH l) true a (gCells l) cap kr kd w' hat hcap hB.len ⟨hB.w1, hB.w8⟩ ⟨hB.h1, hB.h8⟩ (by have := hB.w8; omega) (by have := hB.h8; omega))
    have HTX := Lib.hid (fun a cap w' hat hcap => text_some (J := true) (gW l) (gH l) a (shM (gW l) (gH l) kr kd (gCells l)) cap w' hat hcap hlen ⟨hB.w1, hB.w8⟩ ⟨hB.h1, hB.h8⟩)
    rw [HT.out, hlen, ← hB.len] at HTX
    rw [ec, e1, e2] at HRJ
    clear h hB hr hd hlen ec e1 e2
    generalize shT l (kr : Int) (kd : Int) = T at *
    generalize shM (gW l) (gH l) kr kd (gCells l) = C2 at *
    generalize gW l = W at *
    generalize gH l = H at *
    generalize gCells l = cells at *
    go_enter Tryd.func25, Tryd.ntmps25
    go_wp2_with fail
    refine HRJ.out.mono ?_
    rintro e w1 ⟨a, cap, rfl, hown, hb⟩
    have hcap := hown.cap
    have hat : ∀ o, At (w1.alloc o) a (byts cells) := fun o => (hown.at).later rfl ((Below.refl _ _).alloc (Nat.le_refl _) _)
    have hb0 := fun o => hb.alloc hb.size o
    clear hown
    go_wp2_with fail
    refine (HSH.out a cap _ (hat _) hcap).mono ?_
    rintro e w2 ⟨a2, cap2, rfl, hat2, hc2, hb2⟩
    go_wp2_with fail
    refine (HTX.out a2 cap2 _ hat2 hc2).mono ?_
    rintro e w3 ⟨rfl, hb3⟩
    go_wp2_with fail
    go_ret2
    exact ⟨by rw [HN.out]; rfl, ((hb0 _).trans (hb2.mono (by simp; have := hb.size; omega))).trans (hb3.mono (by have := hb2.size; simp at this; have := hb.size; omega))⟩
end Go.Proofs.YtggjponlgndghaaDoor
