/- Sets of cells by the program: the set of a list, the unknown neighbours of a cell, the unknown cells. -/
import Derived.Test.YthlbplmghjaeoaaDoorC3
import Derived.Test.YthlbplmghjaeoaaDoorC5
import Derived.Outline
namespace Go.Proofs.YthlbplmghjaeoaaDoor
open Go.RowKit

theorem maskM_take (xs : List Nat) (h : ∀ c ∈ xs, c < 64) (k : Nat) : maskM (xs.take k) < 18446744073709551616 := maskM_lt _ fun c hc => h c (List.mem_of_mem_take hc)
theorem u64_put (s c : Nat) (hs : s < 18446744073709551616) (hc : c < 64) : bits .or .u64 (s : Int) (IntKind.u64.wrap ((2 : Int) ^ c)) = ((s ||| 2 ^ c : Nat) : Int) := by
  have h2 : 2 ^ c < 18446744073709551616 := Nat.pow_lt_pow_right (by decide) hc
  have e : ((2 : Int) ^ c) = ((2 ^ c : Nat) : Int) := by simp
  rw [e]
  generalize 2 ^ c = q at h2 ⊢
  rw [wrap_u64 _ (by omega) (by omega)]
  exact (bits_nat .u64 64 (by decide) wrap_u64 s q hs h2).2

set_option maxRecDepth 100000 in
set_option maxHeartbeats 1600000 in
theorem areaOf_any (xs : List Nat) (a : Option Addr) (cap : Nat) (w : World) (hat : At w a (nats xs)) (hl : xs.length ≤ 1048576) (h64 : ∀ c ∈ xs, c < 64) :
    Calls Tryd.prog 90 #[.slice a xs.length cap] w fun e w' => e = .returned (.int .u64 (maskM xs : Nat)) ∧ w = w' := by
  go_enter Tryd.func90, Tryd.ntmps90
  go_wp2_with fail
  go_loop [3, 8] (fun s i => ∃ k : Nat, k ≤ xs.length ∧ i = .int .i64 k ∧ s = .int .u64 (maskM (xs.take k) : Nat)) (fun _ i => xs.length - (intOf i).toNat)
  case atStart => exact ⟨0, Nat.zero_le _, rfl, rfl⟩
  case round =>
    obtain ⟨k, hk, rfl, rfl⟩ := hrel
    have hm := maskM_take xs h64 k
    by_cases hlt : k < xs.length
    · have HS := Lib.hid (maskM_step xs k hlt)
      have hx := h64 _ (List.getElem_mem hlt)
      have HU := Lib.hid (u64_put _ _ hm hx)
      obtain ⟨b, off, he, hc⟩ := nats_at hat k hlt
      subst he
      go_wp2_with fail
      go_round
      case rel => exact ⟨k + 1, by omega, by go_num, by rw [HS.out, HU.out]⟩
      case measure => simp [intOf]; omega
    · obtain rfl : k = xs.length := by omega
      go_wp2_with fail
      go_ret
      exact ⟨by simp, rfl⟩

/-- The neighbours of a cell that have a sign. -/
def signB (cells : List UInt8) (s : UInt8) (k : Nat) : Bool := cells.getD k 0 == s
def nrS (cells : List UInt8) (W c : Nat) (s : UInt8) : List Nat := (nearM W cells.length c).filter (signB cells s)
theorem nearGo_rise (W c : Nat) : ∀ (m k : Nat), (nearGo W c k m).Pairwise (· < ·) ∧ ∀ o ∈ nearGo W c k m, k ≤ o
  | 0, _ => by simp [nearGo]
  | m + 1, k => by
    obtain ⟨h1, h2⟩ := nearGo_rise W c m (k + 1)
    unfold nearGo
    split
    · refine ⟨List.pairwise_cons.2 ⟨fun o ho => by have := h2 o ho; omega, h1⟩, fun o ho => ?_⟩
      rcases List.mem_cons.1 ho with rfl | ho
      · exact Nat.le_refl _
      · have := h2 o ho; omega
    · exact ⟨h1, fun o ho => by have := h2 o ho; omega⟩
theorem nearM_rise (W n c : Nat) : (nearM W n c).Pairwise (· < ·) := (nearGo_rise W c n 0).1
theorem nrS_rise (cells : List UInt8) (W c : Nat) (s : UInt8) : (nrS cells W c s).Pairwise (· < ·) := List.Pairwise.filter _ (nearM_rise _ _ _)
theorem nrS_lt {cells : List UInt8} {W c : Nat} {s : UInt8} {x : Nat} (h : x ∈ nrS cells W c s) : x < cells.length := nearM_lt _ _ _ _ (List.mem_filter.1 h).1
theorem nrS_le (cells : List UInt8) (W c : Nat) (s : UInt8) : (nrS cells W c s).length ≤ cells.length := Nat.le_trans (List.length_filter_le _ _) (nearM_le _ _ _)
theorem nrS_sign {cells : List UInt8} {W c : Nat} {s : UInt8} {x : Nat} (h : x ∈ nrS cells W c s) : cells.getD x 0 = s := by
  have := (List.mem_filter.1 h).2
  simpa [signB] using this
theorem filter_step {p : Nat → Bool} (N : List Nat) (k : Nat) (hk : k < N.length) : (N.take (k + 1)).filter p = (N.take k).filter p ++ (if p N[k] = true then [N[k]] else []) := by
  rw [List.take_succ_eq_append_getElem hk, List.filter_append]
  by_cases h : p N[k] = true <;> simp [h]
theorem nrS_mask {cells : List UInt8} (W c : Nat) (s : UInt8) (h : cells.length ≤ 64) : bitsM (maskM (nrS cells W c s)) = nrS cells W c s :=
  bitsM_mask (nrS_rise _ _ _ _) fun x hx => by have := nrS_lt hx; omega
theorem nrS_mlt {cells : List UInt8} (W c : Nat) (s : UInt8) (h : cells.length ≤ 64) : maskM (nrS cells W c s) < 18446744073709551616 :=
  maskM_lt _ fun x hx => by have := nrS_lt hx; omega
theorem hidM_mask {cells : List UInt8} (h : cells.length ≤ 64) : bitsM (maskM (hidM cells)) = hidM cells :=
  bitsM_mask (List.Pairwise.filter _ List.pairwise_lt_range) fun x hx => by have := hidM_lt _ _ hx; omega
theorem hidM_mlt {cells : List UInt8} (h : cells.length ≤ 64) : maskM (hidM cells) < 18446744073709551616 :=
  maskM_lt _ fun x hx => by have := hidM_lt _ _ hx; omega


set_option maxRecDepth 100000 in
set_option maxHeartbeats 1600000 in
theorem unknown_any (W H : Nat) (cells : List UInt8) (w : World) (hl : cells.length ≤ 64) :
    Calls Tryd.prog 58 #[ntV W H cells] w fun e w' => e = .returned (.int .u64 (maskM (hidM cells) : Nat)) ∧ Below w.heap.size w w' := by
  have HNG := Lib.hid (fun w => ngrid_any W H cells w)
  unfold ntV at *
  have HH : Hid (filtM (unsB cells) cells.length = hidM cells) := rfl
  have hid64 := fun x hx => (show x < 64 by have := hidM_lt cells x hx; omega)
  have hidle : (hidM cells).length ≤ 1048576 := Nat.le_trans (filtM_le _ _) (by omega)
  go_enter Tryd.func58, Tryd.ntmps58
  go_wp2_with fail
  have hb0 : Below w.heap.size w (w.alloc (.cells #[.int .i64 W, .int .i64 H, .string ⟨cells.toArray⟩] 84)) := (Below.refl _ _).alloc (Nat.le_refl _) _
  generalize w.alloc (.cells #[.int .i64 W, .int .i64 H, .string ⟨cells.toArray⟩] 84) = w0 at *
  refine (HNG.out _).mono ?_
  rintro e w1 ⟨a, cap, rfl, hown, hb1⟩
  have s1 := hb1.size
  have s0 := hb0.size
  have hba : Below w1.heap.size w1 (w1.alloc (.cells #[.int .i64 W, .int .i64 H, .slice a cells.length cap, .bool false] 58)) := (Below.refl _ _).alloc (Nat.le_refl _) _
  have hat2 := (hown.later hba).at
  have HP := Lib.hid (fun (w : World) (h : At w a (byts cells)) => pick_any (J := false) W H a cells.length cap (unsB cells) 92 #[.agg #[.int .i64 W, .int .i64 H, .slice a cells.length cap, .bool false]] #[] w hl enters_isUnseen (fun w' k hb' hk => isUnseen_any W H a cells cap k w' (h.later rfl hb') hk hl))
  have HBA := Lib.hid ((hb0.trans (hb1.mono s0)).trans (hba.mono (by omega)))
  go_wp2_with fail
  have sA : w.heap.size ≤ (w1.alloc (.cells #[.int .i64 W, .int .i64 H, .slice a cells.length cap, .bool false] 58)).heap.size := by simp; omega
  refine (HP.out _ hat2).mono ?_
  rintro e w2 ⟨ah, ch, rfl, hownh, hb2⟩
  rw [HH.out] at hownh ⊢
  have HA := Lib.hid (areaOf_any (hidM cells) ah ch w2 hownh.at hidle hid64)
  clear hownh
  generalize hhs : hidM cells = hs at *
  have HHS := Lib.hid hhs
  clear hhs
  go_wp2_with fail
  refine HA.out.mono ?_
  rintro e w3 ⟨rfl, rfl⟩
  go_wp2_with fail
  go_ret
  exact ⟨by rw [HHS.out]; rfl, HBA.out.trans (hb2.mono sA)⟩
end Go.Proofs.YthlbplmghjaeoaaDoor
