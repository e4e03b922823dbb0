/- Strips: lists of mines from the back, by the model. -/
import Derived.Test.YthlbplmghjaeoafH3
import Derived.Test.YthlbplmghjaeoafH5
import Derived.Test.YthlbplmghjaeoafS1
import Derived.Outline
import Derived.Deep.DeepCutAuto
namespace Go.Proofs.Ythlbplmghjaeoaf
open Go.RowKit

theorem u8_63c (a : UInt8) : ((a.toNat : Int) == 63) = (a == 63) := by
  by_cases h : a = 63
  · subst h; rfl
  · rw [beq_eq_false_iff_ne.2 h, beq_eq_false_iff_ne]
    intro e
    exact h (UInt8.toNat_inj.1 (show a.toNat = 63 by omega))
set_option maxRecDepth 100000 in
set_option maxHeartbeats 1600000 in
theorem stCan_any (s : List UInt8) (hs : ∀ c ∈ s, stB c = true) (c : Nat) (b h n : Bool) (w : World) (hc : c < s.length) (_hl : s.length ≤ 40) :
    Calls Try.prog 28 #[.string ⟨s.toArray⟩, .int .i64 (c : Int), .int .i64 (b.toNat : Int), .int .i64 (h.toNat : Int), .int .i64 (n.toNat : Int)] w fun e w' => e = .returned (.bool (canM s c b h n)) ∧ w = w' := by
  have hg : s.getD c 0 = s[c] := by simp [List.getD, hc]
  have h63 := u8_63c s[c]
  have hcs := stB_cases (hs _ (List.getElem_mem hc))
  have HS := Lib.hid hs
  clear hs
  cases q63 : (s[c] == 63) with
  | true =>
    rw [q63] at h63
    have HR : Hid (canM s c b h n = true) := by rw [Hid, canM, hg, q63]; rfl
    generalize (b.toNat : Int) = bn
    generalize (h.toNat : Int) = hn
    generalize (n.toNat : Int) = nn
    clear q63 hcs hg
    go_enter Try.func28, Try.ntmps28
    go_wp2_with fail
    go_ret
    exact ⟨by rw [HR.out]; rfl, rfl⟩
  | false =>
    rw [q63] at h63
    have hx : 48 ≤ s[c].toNat ∧ s[c].toNat ≤ 50 := by
      rcases hcs with e | e | e | e
      · rw [e] at q63; exact absurd q63 (by decide)
      all_goals rw [e]; decide
    obtain ⟨hx1, hx2⟩ := hx
    cases h with
    | true =>
      have HR : Hid (canM s c b true n = false) := by rw [Hid, canM, hg, q63]; rfl
      generalize (b.toNat : Int) = bn
      generalize (n.toNat : Int) = nn
      clear q63 hcs hg hx1 hx2
      rw [show ((true.toNat : Nat) : Int) = 1 from rfl]
      go_enter Try.func28, Try.ntmps28
      go_wp2_with fail
      go_ret
      exact ⟨by rw [HR.out]; rfl, rfl⟩
    | false =>
      have HR : Hid (canM s c b false n = (48 + (b.toNat + n.toNat) == s[c].toNat)) := by rw [Hid, canM, hg, q63]; rfl
      have hb1 : b.toNat ≤ 1 := by cases b <;> decide
      have hn1 : n.toNat ≤ 1 := by cases n <;> decide
      generalize b.toNat = bn at *
      generalize n.toNat = nn at *
      have hsub : IntKind.u8.wrap ((s[c].toNat : Int) - 48) = ((s[c].toNat - 48 : Nat) : Int) := by
        rw [IntKind.wrap_u8]; omega
      have heq : ((bn : Int) + (nn : Int) == ((s[c].toNat - 48 : Nat) : Int)) = (48 + (bn + nn) == s[c].toNat) := by
        by_cases e : 48 + (bn + nn) = s[c].toNat
        · rw [e]; simp; omega
        · rw [beq_eq_false_iff_ne.2 e, beq_eq_false_iff_ne]; omega
      have hsub2 : ((s[c].toNat : Int) - 48) = ((s[c].toNat - 48 : Nat) : Int) := by omega
      clear q63 hcs hg
      rw [show ((false.toNat : Nat) : Int) = 0 from rfl]
      cases hq : (48 + (bn + nn) == s[c].toNat) <;> rw [hq] at heq HR
      all_goals
        rw [← hsub2] at heq
        clear hq hsub2 hsub
        go_enter Try.func28, Try.ntmps28
        go_wp2_with fail
        go_ret
        exact ⟨by rw [HR.out]; rfl, rfl⟩
end Go.Proofs.Ythlbplmghjaeoaf
