/- Listed boards by the program: the first board that meets something. -/
import Derived.Test.YthlbplmghjaeoadKE
import Derived.Shelf.SlicesQ.IndexFunc
import Derived.Outline
namespace Go.Proofs.Ythlbplmghjaeoad
open Go.RowKit

set_option maxRecDepth 100000 in
set_option maxHeartbeats 3200000 in
theorem idxB_any (p : LB → Bool) (fid : Nat) (cb : Array Value) (L : List LB) (v : Value) (B : Nat) (w : World) (hL : L.length ≤ 1000000) (hO : OwnsB w B v L) (hex : ∃ x ∈ L, p x = true)
    (eg : ∀ args w, (callFunc fid args).run Try.prog w = .ok (.enter fid args) w)
    (hf : ∀ (x : LB) (W : World), Below w.heap.size w W → Calls Try.prog fid (#[.agg (encB x).toArray] ++ cb) W fun e w' => e = .returned (.bool (p x)) ∧ Below W.heap.size W w') :
    Calls Try.prog 56 #[v, .func (.func fid) #[] cb] w fun e w' => e = .returned (.int .i64 ((L.findIdx p : Nat) : Int)) ∧ Below w.heap.size w w' := by
  obtain ⟨g, cap, cur, rfl, hg1, hg2, hgb, hgc, hgs, hgr⟩ := hO.open (by obtain ⟨x, hx, _⟩ := hex; exact List.length_pos_of_mem hx)
  go_enter Try.func56, Try.ntmps56
  go_wp2_with fail
  obtain ⟨x0, hx0, hp0⟩ := hex
  have HF := Lib.hid hf
  have HG := Lib.hid hgr
  clear hf hgr
  go_loopw [8] (fun i wr => ∃ k : Nat, k ≤ L.length ∧ i = .int .i64 k ∧ (∀ x ∈ L.take k, p x = false) ∧ Below w.heap.size w wr) (fun i _ => L.length - (intOf i).toNat)
  case atStart => exact ⟨0, Nat.zero_le _, rfl, by simp, Below.refl _ _⟩
  case round =>
    obtain ⟨k, hk, rfl, hnone, hb⟩ := hrel
    have hlt : k < L.length := by
      rcases Nat.lt_or_ge k L.length with h | h
      · exact h
      · rw [List.take_of_length_le h] at hnone; rw [hnone x0 hx0] at hp0; cases hp0
    have hrj := range_later (HG.out k hlt) hb
    have hc := HF.out L[k] wr hb
    have HI : Hid (p L[k] = true → L.findIdx p = k) := fun h => by
      refine (List.findIdx_eq hlt).2 ⟨h, fun j hj => ?_⟩
      have := hnone L[j] (List.mem_take_iff_getElem.2 ⟨j, by omega, rfl⟩)
      simp [this]
    have HN : Hid (p L[k] = false → ∀ x ∈ L.take (k + 1), p x = false) := fun h x hx => by
      rw [List.take_succ_eq_append_getElem hlt, List.mem_append, List.mem_singleton] at hx
      rcases hx with hx | rfl
      · exact hnone x hx
      · exact h
    clear hnone
    generalize L[k] = x at *
    cases hp : p x with
    | true =>
      rw [hp] at hc
      have HI2 := Lib.hid (HI.out hp)
      clear HI HN
      go_upto_region 4 with fail
      refine wp_region_lit ?_
      go_step
      go_step
      go_step
      go_step
      go_step
      go_step
      go_step
      go_step
      go_step
      go_step
      go_step
      go_step
      refine wpList_load_mid rfl 46 _ rfl g (k * 24) rfl (encB x) _ hrj Try.underlying46 rfl (inf67.trans (by rw [encB_len])) ?_
      go_wp2_with (go_at_fn fid; refine hc.mono ?_; rintro e w2 ⟨rfl, hb2⟩)
      go_ret
      exact ⟨by rw [HI2.out]; rfl, hb.trans (hb2.mono hb.size)⟩
    | false =>
      rw [hp] at hc
      have HN2 := Lib.hid (HN.out hp)
      clear HI HN
      go_upto_region 4 with fail
      refine wp_region_lit ?_
      go_step
      go_step
      go_step
      go_step
      go_step
      go_step
      go_step
      go_step
      go_step
      go_step
      go_step
      go_step
      refine wpList_load_mid rfl 46 _ rfl g (k * 24) rfl (encB x) _ hrj Try.underlying46 rfl (inf67.trans (by rw [encB_len])) ?_
      go_wp2_with (go_at_fn fid; refine hc.mono ?_; rintro e w2 ⟨rfl, hb2⟩)
      go_roundw
      case rel => exact ⟨k + 1, by omega, by go_num, HN2, hb.trans (hb2.mono hb.size)⟩
      case measure => simp [intOf]; omega

end Go.Proofs.Ythlbplmghjaeoad
