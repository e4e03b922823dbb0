/- Views: what the model calls a view, walked; sets of hidden cells by the program. -/
import Derived.Test.YtndmkbkmfonefadDoorW1
import Derived.Test.YtndmkbkmfonefadDoorY5
import Derived.Laws.BitsLemmas
import Derived.Outline
namespace Go.Proofs.YtndmkbkmfonefadDoor
open Go.RowKit

theorem count_step {l : List UInt8} {k : Nat} (hk : k < l.length) (b : UInt8) : (l.take (k + 1)).count b = (l.take k).count b + if l[k] = b then 1 else 0 := by
  rw [List.take_succ_eq_append_getElem hk, List.count_append]
  by_cases h : l[k] = b <;> simp [h]

set_option maxRecDepth 100000 in
set_option maxHeartbeats 800000 in
theorem viGood_any (l : List UInt8) (w : World) (hl : l.length ≤ 1048576) :
    Calls Tryd.prog 53 #[.string ⟨l.toArray⟩] w fun e w' => e = .returned (.bool (viewM l)) ∧ Below w.heap.size w w' := by
  rw [← view_good]
  by_cases h72 : l.length ≤ 72
  · go_enter Tryd.func53, Tryd.ntmps53
    go_wp2_with fail
    refine (boSize_any l _ hl).mono ?_
    rintro e w1 ⟨rfl, hb⟩
    by_cases h0 : (boSizeM l).1 = 0
    · have d0 : (((boSizeM l).1 : Int) == 0) = true := by simp [h0]
      have H0 := Lib.hid h0
      clear h0
      go_wp2_with fail
      go_ret
      exact ⟨by simp [viGoodM, h72, H0.out], hb⟩
    · have d0 : (((boSizeM l).1 : Int) == 0) = false := by simp [h0]
      have H0 := Lib.hid h0
      clear h0
      go_wp2_with fail
      go_loop [5, 6] (fun h i => ∃ k : Nat, k ≤ l.length ∧ i = .int .i64 k ∧ h = .int .i64 ((l.take k).count 63 : Nat) ∧ Hid (l.all viSign = (l.drop k).all viSign)) (fun h i => l.length - (intOf i).toNat)
      case atStart => exact ⟨0, Nat.zero_le _, rfl, rfl, rfl⟩
      case round =>
        obtain ⟨k, hk, rfl, rfl, hno⟩ := hrel
        by_cases hlt : k < l.length
        · have Ht := Lib.hid (List.drop_eq_getElem_cons hlt)
          have HC := Lib.hid (count_step hlt 63)
          have hcl : (l.take k).count 63 ≤ k := Nat.le_trans List.count_le_length (by simp; omega)
          have q1 := byte_beq l[k] 63 (by omega)
          have q3 := byte_beq l[k] 47 (by omega)
          by_cases c1 : (l[k] == 63) = true
          · have d1 : ((l[k].toNat : Int) == 63) = true := by rw [show ((63 : Int)) = ((63 : Nat) : Int) from rfl, q1]; simpa using c1
            have C1 := Lib.hid c1
            clear c1 q1 q3
            go_wp2_with fail
            go_round
            case rel => exact ⟨k + 1, by omega, by go_num, by rw [HC.out, if_pos (by simpa using C1.out)]; go_num, by rw [Hid, hno.out, Ht.out, List.all_cons, viSign, C1.out]; rfl⟩
            case measure => simp [intOf]; omega
          · have d1 : ((l[k].toNat : Int) == 63) = false := by rw [show ((63 : Int)) = ((63 : Nat) : Int) from rfl, q1]; simpa using c1
            have C1 := Lib.hid c1
            clear c1 q1
            by_cases c3 : (l[k] == 47) = true
            · have d3 : ((l[k].toNat : Int) != 47) = false := by simp only [bne]; rw [show ((47 : Int)) = ((47 : Nat) : Int) from rfl, q3]; simpa using c3
              have C3 := Lib.hid c3
              clear c3 q3
              go_wp2_with fail
              go_round
              case rel => exact ⟨k + 1, by omega, by go_num, by rw [HC.out, if_neg (by simpa using C1.out)]; rfl, by rw [Hid, hno.out, Ht.out, List.all_cons, viSign, C3.out]; simp⟩
              case measure => simp [intOf]; omega
            · have d3 : ((l[k].toNat : Int) != 47) = true := by simp only [bne]; rw [show ((47 : Int)) = ((47 : Nat) : Int) from rfl, q3]; simpa using c3
              have C3 := Lib.hid c3
              clear c3 q3
              by_cases g1 : 48 ≤ l[k].toNat
              · by_cases g2 : l[k].toNat ≤ 56
                · have HD := Lib.hid (show digSign l[k] = true by simp [digSign, g1, g2])
                  have i1 : ¬ ((l[k].toNat : Int) < 48) := by omega
                  have i2 : ¬ (56 < (l[k].toNat : Int)) := by omega
                  clear g1 g2
                  go_wp2_with fail
                  go_round
                  case rel => exact ⟨k + 1, by omega, by go_num, by rw [HC.out, if_neg (by simpa using C1.out)]; rfl, by rw [Hid, hno.out, Ht.out, List.all_cons, viSign, HD.out]; simp⟩
                  case measure => simp [intOf]; omega
                · have HD := Lib.hid (show viSign l[k] = false by have a1 := C1.out; have a2 := C3.out; simp at a1 a2; simp [viSign, digSign, g2, a1, a2])
                  have i1 : ¬ ((l[k].toNat : Int) < 48) := by omega
                  have i2 : (56 < (l[k].toNat : Int)) := by omega
                  clear g1 g2
                  go_wp2_with fail
                  go_ret
                  exact ⟨by rw [viGoodM, if_pos h72, if_neg H0.out, hno.out, Ht.out, List.all_cons, HD.out]; rfl, hb⟩
              · have HD := Lib.hid (show viSign l[k] = false by have a1 := C1.out; have a2 := C3.out; simp at a1 a2; simp [viSign, digSign, g1, a1, a2])
                have i1 : ((l[k].toNat : Int) < 48) := by omega
                clear g1
                go_wp2_with fail
                go_ret
                exact ⟨by rw [viGoodM, if_pos h72, if_neg H0.out, hno.out, Ht.out, List.all_cons, HD.out]; rfl, hb⟩
        · obtain rfl : k = l.length := by omega
          go_wp2_with fail
          go_ret
          exact ⟨by rw [viGoodM, if_pos h72, if_neg H0.out, hno.out, List.drop_length]; simp; omega, hb⟩
  · have h72' : 72 < l.length := by omega
    have h0 : viGoodM l = false := by rw [viGoodM, if_neg h72]
    clear h72
    go_enter Tryd.func53, Tryd.ntmps53
    go_wp2_with fail
    go_ret
    exact ⟨by rw [h0]; rfl, Below.refl _ _⟩

/-- A set of hidden cells as the program keeps it: a bit a cell, the first one the highest. -/
def setM (p : Nat → Bool) (hs : List Nat) : Nat := hs.foldl (fun s c => 2 * s + if p c = true then 1 else 0) 0
theorem setM_snoc (p : Nat → Bool) (hs : List Nat) (c : Nat) : setM p (hs ++ [c]) = 2 * setM p hs + if p c = true then 1 else 0 := by
  simp [setM, List.foldl_append]
theorem setM_lt (p : Nat → Bool) (hs : List Nat) : setM p hs < 2 ^ hs.length := by
  rw [← List.reverse_reverse hs]
  generalize hs.reverse = r
  induction r with
  | nil => simp [setM]
  | cons c r ih =>
    rw [List.reverse_cons, setM_snoc, List.length_append, List.length_singleton, Nat.pow_succ]
    split <;> omega
theorem setM_step (p : Nat → Bool) (hs : List Nat) (k : Nat) (hk : k < hs.length) : setM p (hs.take (k + 1)) = 2 * setM p (hs.take k) + if p hs[k] = true then 1 else 0 := by
  rw [List.take_succ_eq_append_getElem hk, setM_snoc]
theorem setM_take (p : Nat → Bool) (hs : List Nat) (k : Nat) (hk : k ≤ 30) : setM p (hs.take k) < 1073741824 := by
  refine Nat.lt_of_lt_of_le (setM_lt p _) ?_
  exact Nat.le_trans (Nat.pow_le_pow_right (by decide) (show (hs.take k).length ≤ 30 by simp; omega)) (by decide)

theorem wrap_u64 (n : Int) (h₀ : 0 ≤ n) (h₁ : n < 2 ^ 64) : IntKind.u64.wrap n = n := by
  have : IntKind.u64.wrap n = n % 18446744073709551616 := by simp [IntKind.wrap, IntKind.bits, IntKind.signed]
  rw [this]; omega
theorem or_one (s : Nat) (h : s < 1073741824) : bits .or .u64 ((s : Int) * 2) 1 = (s : Int) * 2 + 1 :=
  bits_join .u64 64 (by decide) wrap_u64 1 _ _ (by omega) (by omega) (by omega) (by omega) (by omega) (by omega)

set_option maxRecDepth 100000 in
set_option maxHeartbeats 1600000 in
theorem setOf_any {J : Bool} (W H : Nat) (a : Option Addr) (n c : Nat) (hs : List Nat) (ah : Option Addr) (ch : Nat) (an : Option Addr) (nn cn : Nat) (p : Nat → Bool) (F : Nat) (first cp : Array Value) (w : World) (hat : At w ah (nats hs)) (hl : hs.length ≤ 30)
    (hE : ∀ (args : Array Value) (w' : World), (callFunc F args).run Tryd.prog w' = .ok (.enter F args) w')
    (hf : ∀ (w' : World) (k : Nat), Below w.heap.size w w' → k ∈ hs → Calls Tryd.prog F (first.push (.int .i64 (k : Int)) ++ cp) w' fun e w'' => e = .returned (.bool (p k)) ∧ Below w'.heap.size w' w'') :
    Calls Tryd.prog 86 #[.agg #[.int .i64 W, .int .i64 H, .slice a n c, .bool J, .slice ah hs.length ch, .slice an nn cn], .func (.func F) first cp] w fun e w' => e = .returned (.int .u64 (setM p hs : Nat)) ∧ Below w.heap.size w w' := by
  have HF := Lib.hid hf
  clear hf
  go_enter Tryd.func86, Tryd.ntmps86
  go_wp2_with fail
  have hb0 : Below w.heap.size w (w.alloc (.cells #[.int .i64 W, .int .i64 H, .slice a n c, .bool J, .slice ah hs.length ch, .slice an nn cn] 68)) := (Below.refl _ _).alloc (Nat.le_refl _) _
  generalize w.alloc (.cells #[.int .i64 W, .int .i64 H, .slice a n c, .bool J, .slice ah hs.length ch, .slice an nn cn] 68) = w0 at *
  go_loopw [5, 11] (fun s i wr => ∃ k : Nat, k ≤ hs.length ∧ i = .int .i64 k ∧ s = .int .u64 (setM p (hs.take k) : Nat) ∧ Below w.heap.size w wr) (fun _ i _ => hs.length - (intOf i).toNat)
  case atStart => exact ⟨0, Nat.zero_le _, rfl, rfl, hb0⟩
  case round =>
    obtain ⟨k, hk, rfl, rfl, hbr⟩ := hrel
    have hsr := hbr.size
    have hlt30 := setM_take p hs k (by omega)
    by_cases hlt : k < hs.length
    · have HS := Lib.hid (setM_step p hs k hlt)
      obtain ⟨b, off, he, hcx⟩ := nats_at (hat.below hat (Nat.le_refl _) hbr) k hlt
      subst he
      have hc := HF.out wr hs[k] hbr (List.getElem_mem hlt)
      generalize setM p (hs.take k) = sk at *
      have i1 := Lib.hid (or_one sk hlt30)
      cases hp : p hs[k] with
      | true =>
        rw [hp] at hc
        have Hp := Lib.hid hp
        have HC := Lib.hid hc
        clear hp hc
        go_wp2_with fail
        refine HC.out.mono ?_
        rintro e w2 ⟨rfl, hb2⟩
        go_wp2_with fail
        go_roundw
        case rel => exact ⟨k + 1, by omega, by go_num, by rw [HS.out, if_pos Hp.out, i1.out]; congr 1; omega, hbr.trans (hb2.mono hsr)⟩
        case measure => simp [intOf]; omega
      | false =>
        rw [hp] at hc
        have Hp := Lib.hid hp
        have HC := Lib.hid hc
        clear hp hc
        go_wp2_with fail
        refine HC.out.mono ?_
        rintro e w2 ⟨rfl, hb2⟩
        go_wp2_with fail
        go_roundw
        case rel => exact ⟨k + 1, by omega, by go_num, by rw [HS.out, if_neg (by rw [Hp.out]; decide)]; congr 1; omega, hbr.trans (hb2.mono hsr)⟩
        case measure => simp [intOf]; omega
    · obtain rfl : k = hs.length := by omega
      rw [List.take_length]
      go_wp2_with fail
      go_ret
      exact ⟨rfl, hbr⟩
end Go.Proofs.YtndmkbkmfonefadDoor
