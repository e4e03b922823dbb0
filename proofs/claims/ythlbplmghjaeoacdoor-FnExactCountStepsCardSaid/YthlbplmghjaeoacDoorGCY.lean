/- CY, CZ, laid as one text. -/
import Derived.Test.YthlbplmghjaeoacDoorGCV
import Derived.Outline

/- Notes: all steps by the rules, by the model. -/
namespace Go.Proofs.YthlbplmghjaeoacDoor
open Go.RowKit

/-- How many cells are unknown. -/
def unk (cells : List UInt8) : Nat := (List.range cells.length).countP (signB cells 63)
theorem countP_le' {p q : Nat → Bool} : ∀ l : List Nat, (∀ x ∈ l, p x = true → q x = true) → l.countP p ≤ l.countP q
  | [], _ => Nat.le_refl _
  | a :: r, h => by
    have hr := countP_le' r fun x hx => h x (List.mem_cons_of_mem _ hx)
    rw [List.countP_cons, List.countP_cons]
    have ha := h a List.mem_cons_self
    by_cases hp : p a = true
    · rw [if_pos hp, if_pos (ha hp)]; omega
    · rw [if_neg hp]; split <;> omega
theorem countP_lt' {p q : Nat → Bool} : ∀ l : List Nat, (∀ x ∈ l, p x = true → q x = true) → (∃ x ∈ l, q x = true ∧ p x = false) → l.countP p < l.countP q
  | [], _, h => by obtain ⟨x, hx, _⟩ := h; cases hx
  | a :: r, h, hx => by
    obtain ⟨x, hx, hq, hp⟩ := hx
    have hr := countP_le' r fun x hx => h x (List.mem_cons_of_mem _ hx)
    have ha := h a List.mem_cons_self
    rw [List.countP_cons, List.countP_cons]
    rcases List.mem_cons.1 hx with rfl | hx
    · rw [if_neg (by rw [hp]; simp), if_pos hq]; omega
    · have := countP_lt' r (fun x hx => h x (List.mem_cons_of_mem _ hx)) ⟨x, hx, hq, hp⟩
      by_cases hpa : p a = true
      · rw [if_pos hpa, if_pos (ha hpa)]; omega
      · rw [if_neg hpa]; split <;> omega
theorem unk_le (cells : List UInt8) : unk cells ≤ cells.length := by
  have := List.countP_le_length (p := signB cells 63) (l := List.range cells.length)
  rw [List.length_range] at this
  exact this
theorem unk_lt {cells : List UInt8} {W : Nat} {p : Bool} (h : fnd (stF cells W p) = true) : unk (apM cells (stF cells W p)) < unk cells := by
  obtain ⟨c1, c2⟩ := stF_cel cells W p
  obtain ⟨x, hx, hu⟩ : ∃ x, x < cells.length ∧ (x ∈ (stF cells W p).1 ∨ x ∈ (stF cells W p).2) := by
    rw [fnd] at h
    cases e1 : (stF cells W p).1 with
    | cons a r => exact ⟨a, c1.lt a (by rw [e1]; exact List.mem_cons_self), .inl List.mem_cons_self⟩
    | nil =>
      cases e2 : (stF cells W p).2 with
      | cons a r => exact ⟨a, c2.lt a (by rw [e2]; exact List.mem_cons_self), .inr List.mem_cons_self⟩
      | nil => rw [e1, e2] at h; cases h
  have h63 := stF_un cells W p x hu
  rw [unk, unk, apM_length]
  apply countP_lt'
  · intro i hi hs
    rw [signB, apM_get (List.mem_range.1 hi)] at hs
    rw [signB]
    by_cases q2 : i ∈ (stF cells W p).2
    · rw [if_pos q2] at hs; exact absurd hs (by decide)
    · rw [if_neg q2] at hs
      by_cases q1 : i ∈ (stF cells W p).1
      · rw [if_pos q1] at hs; exact absurd hs (by decide)
      · rw [if_neg q1] at hs; exact hs
  · refine ⟨x, List.mem_range.2 hx, by rw [signB, h63]; rfl, ?_⟩
    rw [signB, apM_get hx]
    by_cases q2 : x ∈ (stF cells W p).2
    · rw [if_pos q2]; rfl
    · rw [if_neg q2]
      rcases hu with hu | hu
      · rw [if_pos hu]; rfl
      · exact absurd hu q2
theorem apM_signs {cells : List UInt8} {f : List Nat × List Nat} (h : ∀ c ∈ cells, noteSign c = true) : ∀ c ∈ apM cells f, noteSign c = true :=
  noteL_signs (noteL_signs h rfl) rfl

/-- All steps: the cells behind them, and how many steps; none if the cells before a step, or at the end, are not sound. -/
def alM (W : Nat) (p : Bool) : Nat → List UInt8 → Nat → Option (List UInt8 × Nat)
  | 0, _, _ => none
  | m + 1, cells, n => if soundM cells W = true then (if fnd (stF cells W p) = true then alM W p m (apM cells (stF cells W p)) (n + 1) else some (cells, n)) else none
theorem al_bad {W : Nat} {p : Bool} {m : Nat} {cells : List UInt8} {n : Nat} (h : soundM cells W = false) : alM W p m cells n = none := by
  cases m with
  | zero => rfl
  | succ m => rw [alM, h]; rfl
theorem al_end {W : Nat} {p : Bool} {m : Nat} {cells : List UInt8} {n : Nat} (hm : unk cells < m) (h : soundM cells W = true) (hf : fnd (stF cells W p) = false) : alM W p m cells n = some (cells, n) := by
  cases m with
  | zero => omega
  | succ m => rw [alM, if_pos h, hf]; rfl
theorem al_go {W : Nat} {p : Bool} {m : Nat} {cells : List UInt8} {n : Nat} (hm : unk cells < m) (h : soundM cells W = true) (hf : fnd (stF cells W p) = true) : ∃ m', m = m' + 1 ∧ unk (apM cells (stF cells W p)) < m' ∧ alM W p m cells n = alM W p m' (apM cells (stF cells W p)) (n + 1) := by
  have := unk_lt hf
  cases m with
  | zero => omega
  | succ m => exact ⟨m, rfl, by omega, by rw [alM, if_pos h, if_pos hf]⟩
def alT (W H : Nat) : Option (List UInt8 × Nat) → List UInt8
  | none => []
  | some (cs, _) => textM cs W H
def alN : Option (List UInt8 × Nat) → Nat
  | none => 0
  | some (_, n) => n

set_option maxRecDepth 100000 in
set_option maxHeartbeats 1600000 in
theorem ruAll_any (W H : Nat) (cells : List UInt8) (p : Bool) (hW : 1 ≤ W ∧ W ≤ 8) (hH : 1 ≤ H ∧ H ≤ 8) (hn : cells.length = W * H) (hsg : ∀ c ∈ cells, noteSign c = true) (w : World) :
    Calls Tryd.prog 41 #[.string ⟨(textM cells W H).toArray⟩, .bool p] w fun e w' => e = .returned (.tuple #[.string ⟨(alT W H (alM W p 65 cells 0)).toArray⟩, .int .i64 (alN (alM W p 65 cells 0)), .bool (alM W p 65 cells 0).isSome]) ∧ Below w.heap.size w w' := by
  have HS : Hid (∀ (cs : List UInt8), cs.length = W * H → (∀ c ∈ cs, noteSign c = true) → ∀ w, Calls Tryd.prog 32 #[.string ⟨(textM cs W H).toArray⟩] w fun e w' => e = .returned (.bool (soundM cs W)) ∧ Below w.heap.size w w') := fun cs h1 h2 w => by
    obtain ⟨g1, _, g3⟩ := note_text hW hH h1 h2
    exact ruSound_any _ W H cs g1 h2 w g3
  have HP : Hid (∀ (cs : List UInt8), cs.length = W * H → (∀ c ∈ cs, noteSign c = true) → ∀ w, Calls Tryd.prog 38 #[.string ⟨(textM cs W H).toArray⟩, .bool p] w fun e w' => e = .returned (.tuple #[.string ⟨(stT cs W H p).toArray⟩, .bool (fnd (stF cs W p))]) ∧ Below w.heap.size w w') := fun cs h1 h2 w => by
    obtain ⟨g1, _, g3⟩ := note_text hW hH h1 h2
    exact ruStep_any _ W H cs p g1 h2 w g3
  have h64 : unk cells ≤ 64 := by
    have h1 := unk_le cells
    have h2 : W * H ≤ 8 * 8 := Nat.mul_le_mul hW.2 hH.2
    omega
  generalize hR : alM W p 65 cells 0 = R
  have HR := Lib.hid hR
  have HSG := Lib.hid hsg
  have HN := Lib.hid hn
  clear hR hsg hn hW hH
  go_enter Tryd.func41, Tryd.ntmps41
  go_wp2_with fail
  go_loopw [0, 7] (fun s i wr => ∃ (m k : Nat) (cs : List UInt8), s = .string ⟨(textM cs W H).toArray⟩ ∧ i = .int .i64 k ∧ k + unk cs ≤ 64 ∧ unk cs < m ∧ Hid (cs.length = W * H) ∧ Hid (∀ c ∈ cs, noteSign c = true) ∧ Hid (alM W p m cs k = R) ∧ Below w.heap.size w wr) (fun _ i _ => 64 - (intOf i).toNat)
  case atStart => exact ⟨65, 0, cells, rfl, rfl, by omega, by omega, HN, HSG, HR, Below.refl _ _⟩
  case round =>
    obtain ⟨m, k, cs, rfl, rfl, hk, hm, hn, hsg, hR, hb⟩ := hrel
    have hs := HS.out cs hn.out hsg.out
    have hp := HP.out cs hn.out hsg.out
    cases hsd : soundM cs W with
    | false =>
      rw [hsd] at hs
      have HB : Hid (R = none) := by rw [Hid, ← hR.out]; exact al_bad hsd
      have HSS := Lib.hid hs
      clear hs hp hsd
      go_wp2_with fail
      refine (HSS.out _).mono ?_
      rintro e w1 ⟨rfl, hb1⟩
      go_wp2_with fail
      go_ret3
      exact ⟨by rw [HB.out]; rfl, hb.trans (hb1.mono hb.size)⟩
    | true =>
      rw [hsd] at hs
      have HSS := Lib.hid hs
      cases hfd : fnd (stF cs W p) with
      | false =>
        have HB : Hid (R = some (cs, k)) := by rw [Hid, ← hR.out]; exact al_end hm hsd hfd
        rw [hfd] at hp
        have HPP := Lib.hid hp
        clear hs hp hsd hfd
        go_wp2_with fail
        refine (HSS.out _).mono ?_
        rintro e w1 ⟨rfl, hb1⟩
        have hb01 := hb.trans (hb1.mono hb.size)
        go_wp2_with fail
        refine (HPP.out _).mono ?_
        rintro e w2 ⟨rfl, hb2⟩
        go_wp2_with fail
        go_ret3
        exact ⟨by rw [HB.out]; rfl, hb01.trans (hb2.mono hb01.size)⟩
      | true =>
        obtain ⟨m', _, hm', hal⟩ := al_go (n := k) hm hsd hfd
        have hlt := unk_lt hfd
        have HB : Hid (alM W p m' (apM cs (stF cs W p)) (k + 1) = R) := by rw [Hid, ← hal]; exact hR.out
        have HT : Hid (stT cs W H p = textM (apM cs (stF cs W p)) W H) := by rw [Hid, stT, if_pos hfd]
        have HL : Hid ((apM cs (stF cs W p)).length = W * H) := by rw [Hid, apM_length]; exact hn.out
        have HG : Hid (∀ c ∈ apM cs (stF cs W p), noteSign c = true) := apM_signs hsg.out
        rw [hfd, HT.out] at hp
        have HPP := Lib.hid hp
        clear hs hp hsd hfd hal
        generalize apM cs (stF cs W p) = cs' at *
        go_wp2_with fail
        refine (HSS.out _).mono ?_
        rintro e w1 ⟨rfl, hb1⟩
        have hb01 := hb.trans (hb1.mono hb.size)
        go_wp2_with fail
        refine (HPP.out _).mono ?_
        rintro e w2 ⟨rfl, hb2⟩
        have hb02 := hb01.trans (hb2.mono hb01.size)
        go_wp2_with fail
        go_roundw
        case rel => exact ⟨m', k + 1, cs', rfl, by simp, by omega, hm', HL, HG, HB, hb02⟩
        case measure => simp [intOf]; omega
end Go.Proofs.YthlbplmghjaeoacDoor

/- Notes: FindByRules and CountSteps by the model. -/
namespace Go.Proofs.YthlbplmghjaeoacDoor
open Go.RowKit

/-- What all steps come to: the cells and how many steps; none if the text is not notes or fails. -/
def faR (l : List UInt8) (p : Bool) : Option (List UInt8 × Nat) := if gridM noteSign l = true then alM (grW noteSign l) p 65 (grC noteSign l) 0 else none
def faM (l : List UInt8) (p : Bool) : List UInt8 := alT (grW noteSign l) (grH noteSign l) (faR l p)
def faN (l : List UInt8) (p : Bool) : Nat := alN (faR l p)
def faB (l : List UInt8) (p : Bool) : Bool := (faR l p).isSome

set_option maxRecDepth 100000 in
theorem sFindByRules_any (l : List UInt8) (p : Bool) (w : World) (hl : l.length ≤ 1048576) :
    Calls Tryd.prog 20 #[.string ⟨l.toArray⟩, .bool p] w fun e w' => e = .returned (.tuple #[.string ⟨(faM l p).toArray⟩, .bool (faB l p)]) ∧ Below w.heap.size w w' := by
  have h1 := fun w => ruGood_any l w hl
  cases hg : gridM noteSign l with
  | true =>
    rw [hg] at h1
    obtain ⟨hB, hsg⟩ := Grd.note hg
    have HA := Lib.hid (fun w => ruAll_any _ _ _ p ⟨hB.w1, hB.w8⟩ ⟨hB.h1, hB.h8⟩ hB.len hsg w)
    rw [Grd.text hg] at HA
    have HR : Hid (faM l p = alT (grW noteSign l) (grH noteSign l) (alM (grW noteSign l) p 65 (grC noteSign l) 0) ∧ faB l p = (alM (grW noteSign l) p 65 (grC noteSign l) 0).isSome) := ⟨by rw [faM, faR, if_pos hg], by rw [faB, faR, if_pos hg]⟩
    clear hg hB hsg
    go_enter Tryd.func20, Tryd.ntmps20
    go_wp2_with fail
    refine (h1 _).mono ?_
    rintro e w1 ⟨rfl, hb⟩
    go_wp2_with fail
    refine (HA.out _).mono ?_
    rintro e w2 ⟨rfl, hb2⟩
    go_wp2_with fail
    go_ret2
    exact ⟨by rw [HR.out.1, HR.out.2]; rfl, hb.trans (hb2.mono hb.size)⟩
  | false =>
    rw [hg] at h1
    have HR : Hid (faM l p = [] ∧ faB l p = false) := ⟨by rw [faM, faR, hg]; rfl, by rw [faB, faR, hg]; rfl⟩
    clear hg
    go_enter Tryd.func20, Tryd.ntmps20
    go_wp2_with (go_at_call 31; refine (h1 _).mono ?_; rintro e w1 ⟨rfl, hb⟩)
    go_ret2
    exact ⟨by rw [HR.out.1, HR.out.2]; rfl, hb⟩

set_option maxRecDepth 100000 in
theorem sCountSteps_any (l : List UInt8) (p : Bool) (w : World) (hl : l.length ≤ 1048576) :
    Calls Tryd.prog 22 #[.string ⟨l.toArray⟩, .bool p] w fun e w' => e = .returned (.tuple #[.int .i64 (faN l p : Nat), .bool (faB l p)]) ∧ Below w.heap.size w w' := by
  have h1 := fun w => ruGood_any l w hl
  cases hg : gridM noteSign l with
  | true =>
    rw [hg] at h1
    obtain ⟨hB, hsg⟩ := Grd.note hg
    have HA := Lib.hid (fun w => ruAll_any _ _ _ p ⟨hB.w1, hB.w8⟩ ⟨hB.h1, hB.h8⟩ hB.len hsg w)
    rw [Grd.text hg] at HA
    have HR : Hid (faN l p = alN (alM (grW noteSign l) p 65 (grC noteSign l) 0) ∧ faB l p = (alM (grW noteSign l) p 65 (grC noteSign l) 0).isSome) := ⟨by rw [faN, faR, if_pos hg], by rw [faB, faR, if_pos hg]⟩
    clear hg hB hsg
    go_enter Tryd.func22, Tryd.ntmps22
    go_wp2_with fail
    refine (h1 _).mono ?_
    rintro e w1 ⟨rfl, hb⟩
    go_wp2_with fail
    refine (HA.out _).mono ?_
    rintro e w2 ⟨rfl, hb2⟩
    go_wp2_with fail
    go_ret2
    exact ⟨by rw [HR.out.1, HR.out.2]; rfl, hb.trans (hb2.mono hb.size)⟩
  | false =>
    rw [hg] at h1
    have HR : Hid (faN l p = 0 ∧ faB l p = false) := ⟨by rw [faN, faR, hg]; rfl, by rw [faB, faR, hg]; rfl⟩
    clear hg
    go_enter Tryd.func22, Tryd.ntmps22
    go_wp2_with (go_at_call 31; refine (h1 _).mono ?_; rintro e w1 ⟨rfl, hb⟩)
    go_ret2
    exact ⟨by rw [HR.out.1, HR.out.2]; rfl, hb⟩
end Go.Proofs.YthlbplmghjaeoacDoor
