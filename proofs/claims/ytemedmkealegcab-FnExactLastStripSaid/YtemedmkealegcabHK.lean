/- Strips: the list before which just so many others fit. -/
import Derived.Test.YtemedmkealegcabHI
namespace Go.Proofs.Ytemedmkealegcab
open Go.RowKit

/-- How many lists begin with these signs and a mine. -/
def rkA (s : List UInt8) (t : List Bool) : Nat := sumN 41 (fitW s ((t ++ [true]).map sgM))
def rkS (s : List UInt8) : Nat → List Bool → Nat → List Bool
  | 0, t, _ => t
  | n + 1, t, r => if r < rkA s t then rkS s n (t ++ [true]) r else rkS s n (t ++ [false]) (r - rkA s t)
def rkT (s : List UInt8) (r : Nat) : List UInt8 := (rkS s s.length [] r).map sgM
theorem rkS_yes {s : List UInt8} {n : Nat} {t : List Bool} {r : Nat} (h : r < rkA s t) : rkS s (n + 1) t r = rkS s n (t ++ [true]) r := by rw [rkS, if_pos h]
theorem rkS_no {s : List UInt8} {n : Nat} {t : List Bool} {r : Nat} (h : ¬ r < rkA s t) : rkS s (n + 1) t r = rkS s n (t ++ [false]) (r - rkA s t) := by rw [rkS, if_neg h]
theorem sg_text (t : List Bool) : t.map sgM ++ [42] = (t ++ [true]).map sgM ∧ t.map sgM ++ [46] = (t ++ [false]).map sgM := by constructor <;> simp [sgM]

set_option maxRecDepth 100000 in
set_option maxHeartbeats 1600000 in
theorem stRank_any (s : List UInt8) (hg : stM s = true) (r : Nat) (hr : r ≤ 4611686018427387904) (w : World) :
    Calls Try.prog 32 #[.string ⟨s.toArray⟩, .int .i64 (r : Nat)] w fun e w' => e = .returned (.string ⟨(rkT s r).toArray⟩) ∧ Below w.heap.size w w' := by
  obtain ⟨hn1, hn40, hst⟩ := stM_facts hg
  have hall : ∀ (t : List Bool) (_ : t.length < s.length) (w : World), Calls Try.prog 31 #[.string ⟨s.toArray⟩, .string ⟨(t.map sgM ++ [42]).toArray⟩] w fun e w' => e = .returned (.int .i64 (rkA s t : Nat)) ∧ Below w.heap.size w w' := fun t ht w => by
    rw [(sg_text t).1]
    exact stAll_any s hg (t ++ [true]) (by simp; omega) w
  have HALL := Lib.hid hall
  have hle : ∀ t, rkA s t ≤ 4611686018427387904 := fun t => fitW_tot40 s _ hn40
  have HLE := Lib.hid hle
  have HT : Hid (rkT s r = (rkS s s.length [] r).map sgM) := rfl
  clear hall hle hst hg
  go_enter Try.func32, Try.ntmps32
  go_wp2_with fail
  go_loopw [1, 5] (fun v o wr => ∃ (t : List Bool) (q : Nat), t.length ≤ s.length ∧ q ≤ 4611686018427387904 ∧ v = .int .i64 q ∧ o = .string ⟨(t.map sgM).toArray⟩ ∧ Hid (rkS s (s.length - t.length) t q = rkS s s.length [] r) ∧ Below w.heap.size w wr) (fun _ o _ => s.length - (match o with | .string b => b.size | _ => 0))
  case atStart => exact ⟨[], r, Nat.zero_le _, hr, rfl, rfl, rfl, Below.refl _ _⟩
  case round =>
    obtain ⟨t, q, ht, hq, rfl, rfl, HR, hb⟩ := hrel
    by_cases hlt : t.length < s.length
    · have hca := fun w => HALL.out t hlt w
      have HCA := Lib.hid hca
      have hlz : (t.length : Int) < (s.length : Int) := by omega
      have hAl := HLE.out t
      obtain ⟨n, hn⟩ : ∃ n, s.length - t.length = n + 1 := ⟨s.length - t.length - 1, by omega⟩
      have hrr := HR.out
      rw [hn] at hrr
      by_cases hc : q < rkA s t
      · rw [rkS_yes hc] at hrr
        have HRR := Lib.hid hrr
        have hcz : (q : Int) < (rkA s t : Nat) := by omega
        generalize rkA s t = A at *
        have HN := Lib.hid hn
        clear hca hrr hn HR
        go_wp2_with fail
        refine (HCA.out _).mono ?_
        rintro e w1 ⟨rfl, hb1⟩
        go_wp2_with fail
        go_roundw
        case rel => exact ⟨t ++ [true], q, by simp; omega, hq, rfl, by rw [(sg_text t).1], by have := HN.out; rw [Hid, show s.length - (t ++ [true]).length = n by simp; omega]; exact HRR.out, hb.trans (hb1.mono hb.size)⟩
        case measure => simp [ByteArray.size]; omega
      · rw [rkS_no hc] at hrr
        have HRR := Lib.hid hrr
        have hcz : ¬ (q : Int) < (rkA s t : Nat) := by omega
        have hsb : (q : Int) - (rkA s t : Nat) = ((q - rkA s t : Nat) : Int) := by omega
        have hqq : q - rkA s t ≤ 4611686018427387904 := by omega
        generalize rkA s t = A at *
        generalize q - A = q2 at *
        have HN := Lib.hid hn
        clear hca hrr hn HR
        go_wp2_with fail
        refine (HCA.out _).mono ?_
        rintro e w1 ⟨rfl, hb1⟩
        go_wp2_with fail
        go_roundw
        case rel => exact ⟨t ++ [false], q2, by simp; omega, hqq, by go_num, by rw [(sg_text t).2], by have := HN.out; rw [Hid, show s.length - (t ++ [false]).length = n by simp; omega]; exact HRR.out, hb.trans (hb1.mono hb.size)⟩
        case measure => simp [ByteArray.size]; omega
    · have hte : t.length = s.length := by omega
      have hlz : ¬ (t.length : Int) < (s.length : Int) := by omega
      have hrr := HR.out
      rw [hte, Nat.sub_self, rkS] at hrr
      have HRR := Lib.hid hrr
      clear hrr HR
      go_wp2_with fail
      go_ret
      exact ⟨by rw [HT.out, ← HRR.out]; rfl, hb⟩

/-- Whether so many others fit before one. -/
def sorB (l : List UInt8) (c : Int) : Bool := stM l && inB c 0 (((sumN 41 (cwT l) : Nat) : Int) - 1)
def sorV (l : List UInt8) (c : Int) : List UInt8 := if sorB l c = true then rkT l c.toNat else []
theorem sor_no {l : List UInt8} {c : Int} (h : sorB l c = false) : sorV l c = [] := by rw [sorV, h]; rfl
theorem sor_yes {l : List UInt8} {k : Nat} (h : stM l = true) (hk : k < sumN 41 (cwT l)) : sorB l (k : Int) = true ∧ sorV l (k : Int) = rkT l k := by
  have e : sorB l (k : Int) = true := by
    rw [sorB, h]
    simp [inB]
    omega
  exact ⟨e, by rw [sorV, if_pos e]; rfl⟩
theorem sor_bad {l : List UInt8} {c : Int} (h : stM l = false) : sorB l c = false := by rw [sorB, h]; rfl
theorem sor_out {l : List UInt8} {c : Int} (h : ¬ (0 ≤ c ∧ c < (sumN 41 (cwT l) : Nat))) : sorB l c = false := by
  rw [sorB]; simp [inB]; intro _; omega

set_option maxRecDepth 100000 in
set_option maxHeartbeats 1600000 in
theorem sStripOfRank_any (l : List UInt8) (c : Int) (w : World) (hl : l.length ≤ 1048576) :
    Calls Try.prog 16 #[.string ⟨l.toArray⟩, .int .i64 c] w fun e w' => e = .returned (.tuple #[.string ⟨(sorV l c).toArray⟩, .bool (sorB l c)]) ∧ Below w.heap.size w w' := by
  have hgd := fun w => stGood_any l w hl
  cases hg : stM l with
  | false =>
    rw [hg] at hgd
    have HG := Lib.hid hgd
    have e := sor_bad (c := c) hg
    rw [sor_no e, e]
    clear hgd hg e
    go_enter Try.func16, Try.ntmps16
    go_wp2_with fail
    refine (HG.out _).mono ?_
    rintro e w1 ⟨rfl, hb1⟩
    go_wp2_with fail
    go_ret2
    exact ⟨rfl, hb1⟩
  | true =>
    have hall := fun w => stAll_nil l hg w
    rw [← cwT_yes hg] at hall
    have HA := Lib.hid hall
    have hT := cwT_total l
    have hyes := fun (k : Nat) (h : k < sumN 41 (cwT l)) => sor_yes hg h
    have hout := fun (c : Int) (h : ¬ (0 ≤ c ∧ c < (sumN 41 (cwT l) : Nat))) => sor_out (l := l) (c := c) h
    generalize sumN 41 (cwT l) = T at *
    rw [hg] at hgd
    have HG := Lib.hid hgd
    by_cases hc : 0 ≤ c ∧ c < (T : Int)
    · obtain ⟨k, rfl⟩ : ∃ k : Nat, c = (k : Int) := ⟨c.toNat, by omega⟩
      obtain ⟨e1, e2⟩ := hyes k (by omega)
      rw [e1, e2]
      have HIN := Lib.hid fun w => l1In_yes (k : Int) 0 ((T : Int) - 1) w (by omega)
      have HRK := Lib.hid fun w => stRank_any l hg k (by omega) w
      clear hgd hg e1 e2 hc hall hyes hout
      go_enter Try.func16, Try.ntmps16
      go_wp2_with fail
      refine (HG.out _).mono ?_
      rintro e w1 ⟨rfl, hb1⟩
      go_wp2_with fail
      refine (HA.out _).mono ?_
      rintro e w2 ⟨rfl, hb2⟩
      go_wp2_with fail
      refine (HIN.out _).mono ?_
      rintro e w3 ⟨rfl, rfl⟩
      go_wp2_with fail
      refine (HRK.out _).mono ?_
      rintro e w3 ⟨rfl, hb3⟩
      go_wp2_with fail
      go_ret2
      exact ⟨rfl, (hb1.trans (hb2.mono hb1.size)).trans (hb3.mono (by have := hb1.size; have := hb2.size; omega))⟩
    · have e := hout c hc
      rw [sor_no e, e]
      have HIN := Lib.hid fun w => l1In_no c 0 ((T : Int) - 1) w (by omega)
      clear hgd hg e hc hall hyes hout
      go_enter Try.func16, Try.ntmps16
      go_wp2_with fail
      refine (HG.out _).mono ?_
      rintro e w1 ⟨rfl, hb1⟩
      go_wp2_with fail
      refine (HA.out _).mono ?_
      rintro e w2 ⟨rfl, hb2⟩
      go_wp2_with fail
      refine (HIN.out _).mono ?_
      rintro e w3 ⟨rfl, rfl⟩
      go_wp2_with fail
      go_ret2
      exact ⟨rfl, hb1.trans (hb2.mono hb1.size)⟩

set_option maxRecDepth 100000 in
set_option maxHeartbeats 1600000 in
theorem sFirstStrip_any (l : List UInt8) (w : World) (hl : l.length ≤ 1048576) :
    Calls Try.prog 12 #[.string ⟨l.toArray⟩] w fun e w' => e = .returned (.tuple #[.string ⟨(sorV l 0).toArray⟩, .bool (sorB l 0)]) ∧ Below w.heap.size w w' := by
  have hgd := fun w => stGood_any l w hl
  cases hg : stM l with
  | false =>
    rw [hg] at hgd
    have HG := Lib.hid hgd
    have e := sor_bad (c := 0) hg
    rw [sor_no e, e]
    clear hgd hg e
    go_enter Try.func12, Try.ntmps12
    go_wp2_with fail
    refine (HG.out _).mono ?_
    rintro e w1 ⟨rfl, hb1⟩
    go_wp2_with fail
    go_ret2
    exact ⟨rfl, hb1⟩
  | true =>
    have hall := fun w => stAll_nil l hg w
    rw [← cwT_yes hg] at hall
    have HA := Lib.hid hall
    have hT := cwT_total l
    have hyes := fun (k : Nat) (h : k < sumN 41 (cwT l)) => sor_yes hg h
    have hout := fun (c : Int) (h : ¬ (0 ≤ c ∧ c < (sumN 41 (cwT l) : Nat))) => sor_out (l := l) (c := c) h
    generalize sumN 41 (cwT l) = T at *
    rw [hg] at hgd
    have HG := Lib.hid hgd
    by_cases hc : 0 < T
    · have hz0 : ((T : Int) == 0) = false := by rw [beq_eq_false_iff_ne]; omega
      obtain ⟨e1, e2⟩ := hyes 0 (by omega)
      rw [show (((0 : Nat)) : Int) = 0 from rfl] at e1 e2
      rw [e1, e2]
      have hrk := fun w => stRank_any l hg 0 (by omega) w
      rw [show (((0 : Nat)) : Int) = 0 from rfl] at hrk
      have HRK := Lib.hid hrk
      clear hgd hg e1 e2 hc hall hyes hout hrk
      go_enter Try.func12, Try.ntmps12
      go_wp2_with fail
      refine (HG.out _).mono ?_
      rintro e w1 ⟨rfl, hb1⟩
      go_wp2_with fail
      refine (HA.out _).mono ?_
      rintro e w2 ⟨rfl, hb2⟩
      go_wp2_with fail
      refine (HRK.out _).mono ?_
      rintro e w4 ⟨rfl, hb4⟩
      go_wp2_with fail
      go_ret2
      exact ⟨rfl, (hb1.trans (hb2.mono hb1.size)).trans (hb4.mono (by have := hb1.size; have := hb2.size; omega))⟩
    · obtain rfl : T = 0 := by omega
      have e := hout 0 (by omega)
      rw [sor_no e, e]
      clear hgd hg e hc hall hyes hout
      go_enter Try.func12, Try.ntmps12
      go_wp2_with fail
      refine (HG.out _).mono ?_
      rintro e w1 ⟨rfl, hb1⟩
      go_wp2_with fail
      refine (HA.out _).mono ?_
      rintro e w2 ⟨rfl, hb2⟩
      go_wp2_with fail
      go_ret2
      exact ⟨rfl, hb1.trans (hb2.mono hb1.size)⟩

set_option maxRecDepth 100000 in
set_option maxHeartbeats 1600000 in
theorem sLastStrip_any (l : List UInt8) (w : World) (hl : l.length ≤ 1048576) :
    Calls Try.prog 14 #[.string ⟨l.toArray⟩] w fun e w' => e = .returned (.tuple #[.string ⟨(sorV l (((sumN 41 (cwT l) : Nat) : Int) - 1)).toArray⟩, .bool (sorB l (((sumN 41 (cwT l) : Nat) : Int) - 1))]) ∧ Below w.heap.size w w' := by
  have hgd := fun w => stGood_any l w hl
  cases hg : stM l with
  | false =>
    rw [hg] at hgd
    have HG := Lib.hid hgd
    have e := sor_bad (c := (((sumN 41 (cwT l) : Nat) : Int) - 1)) hg
    rw [sor_no e, e]
    clear hgd hg e
    go_enter Try.func14, Try.ntmps14
    go_wp2_with fail
    refine (HG.out _).mono ?_
    rintro e w1 ⟨rfl, hb1⟩
    go_wp2_with fail
    go_ret2
    exact ⟨rfl, hb1⟩
  | true =>
    have hall := fun w => stAll_nil l hg w
    rw [← cwT_yes hg] at hall
    have HA := Lib.hid hall
    have hT := cwT_total l
    have hyes := fun (k : Nat) (h : k < sumN 41 (cwT l)) => sor_yes hg h
    have hout := fun (c : Int) (h : ¬ (0 ≤ c ∧ c < (sumN 41 (cwT l) : Nat))) => sor_out (l := l) (c := c) h
    generalize sumN 41 (cwT l) = T at *
    rw [hg] at hgd
    have HG := Lib.hid hgd
    by_cases hc : 0 < T
    · have hz0 : ((T : Int) == 0) = false := by rw [beq_eq_false_iff_ne]; omega
      obtain ⟨e1, e2⟩ := hyes (T - 1) (by omega)
      rw [show ((T - 1 : Nat) : Int) = (T : Int) - 1 by omega] at e1 e2
      have hsb : (T : Int) - 1 = ((T - 1 : Nat) : Int) := by omega
      rw [e1, e2]
      have hrk := fun w => stRank_any l hg (T - 1) (by omega) w
      generalize T - 1 = T1 at *
      have HRK := Lib.hid hrk
      clear hgd hg e1 e2 hc hall hyes hout hrk
      go_enter Try.func14, Try.ntmps14
      go_wp2_with fail
      refine (HG.out _).mono ?_
      rintro e w1 ⟨rfl, hb1⟩
      go_wp2_with fail
      refine (HA.out _).mono ?_
      rintro e w2 ⟨rfl, hb2⟩
      go_wp2_with fail
      refine (HA.out _).mono ?_
      rintro e w3 ⟨rfl, hb3⟩
      go_wp2_with fail
      refine (HRK.out _).mono ?_
      rintro e w4 ⟨rfl, hb4⟩
      go_wp2_with fail
      go_ret2
      exact ⟨rfl, ((hb1.trans (hb2.mono hb1.size)).trans (hb3.mono (by have := hb1.size; have := hb2.size; omega))).trans (hb4.mono (by have := hb1.size; have := hb2.size; have := hb3.size; omega))⟩
    · obtain rfl : T = 0 := by omega
      have e := hout (((0 : Nat) : Int) - 1) (by omega)
      rw [sor_no e, e]
      clear hgd hg e hc hall hyes hout
      go_enter Try.func14, Try.ntmps14
      go_wp2_with fail
      refine (HG.out _).mono ?_
      rintro e w1 ⟨rfl, hb1⟩
      go_wp2_with fail
      refine (HA.out _).mono ?_
      rintro e w2 ⟨rfl, hb2⟩
      go_wp2_with fail
      go_ret2
      exact ⟨rfl, hb1.trans (hb2.mono hb1.size)⟩
end Go.Proofs.Ytemedmkealegcab
