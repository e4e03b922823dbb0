/- Puzzles by the program: boards that fit all clues, solutions. -/
import Derived.Test.YthlbplmghjaeoaaAI
import Derived.Test.YthlbplmghjaeoaaGKD
import Derived.Shelf.SlicesQ.IndexFunc
import Derived.Outline
namespace Go.Proofs.Ythlbplmghjaeoaa
open Go.RowKit

set_option maxRecDepth 100000 in
set_option maxHeartbeats 1600000 in
theorem idxC_any (fid : Nat) (cb : Array Value) (q : Clu → Bool) (a : Option Addr) (n cap : Nat) (cs : List Clu) (w : World) (hn : n = cs.length) (hl : cs.length ≤ 1000000) (hat : At w a (flatC cs))
    (eg : ∀ args w, (callFunc fid args).run Try.prog w = .ok (.enter fid args) w)
    (hf : ∀ c ∈ cs, ∀ W : World, Below w.heap.size w W → Calls Try.prog fid (#[valC c] ++ cb) W fun e w' => e = .returned (.bool (q c)) ∧ Below W.heap.size W w') :
    Calls Try.prog 64 #[.slice a n cap, .func (.func fid) #[] cb] w fun e w' => ∃ i : Int, e = .returned (.int .i64 i) ∧ (decide (0 ≤ i) = cs.any q) ∧ Below w.heap.size w w' := by
  subst hn
  have HF := Lib.hid hf
  have HA := Lib.hid hat
  clear hf hat
  go_enter Try.func64, Try.ntmps64
  go_wp2_with fail
  go_loopw [8] (fun i wr => ∃ k : Nat, k ≤ cs.length ∧ i = .int .i64 k ∧ Hid (∀ x ∈ cs.take k, q x = false) ∧ Below w.heap.size w wr) (fun i _ => cs.length - (intOf i).toNat)
  case atStart => exact ⟨0, Nat.zero_le _, rfl, by simp [Hid], Below.refl _ _⟩
  case round =>
    obtain ⟨k, hk, rfl, hnone, hb⟩ := hrel
    by_cases hlt : k < cs.length
    · obtain ⟨g, off, rfl, hgl, q0, q1, q2⟩ := clu_at (HA.out.later rfl hb) k hlt
      have hc := HF.out cs[k] (List.getElem_mem hlt) wr hb
      have i1 : (k : Int) < (cs.length : Int) := by omega
      have HI : Hid (q cs[k] = true → cs.any q = true) := fun h => List.any_eq_true.2 ⟨_, List.getElem_mem hlt, h⟩
      have HN : Hid (q cs[k] = false → ∀ x ∈ cs.take (k + 1), q x = false) := fun h x hx => by
        rw [List.take_succ_eq_append_getElem hlt, List.mem_append, List.mem_singleton] at hx
        rcases hx with hx | rfl
        · exact hnone.out x hx
        · exact h
      generalize cs[k] = c at *
      unfold valC at hc
      cases hp : q c with
      | true =>
        rw [hp] at hc
        have HI2 := Lib.hid (HI.out hp)
        clear HI HN hnone
        go_wp2_with (go_at_fn fid; refine hc.mono ?_; rintro e w2 ⟨rfl, hb2⟩)
        go_ret
        exact ⟨_, rfl, by rw [HI2.out]; simp, hb.trans (hb2.mono hb.size)⟩
      | false =>
        rw [hp] at hc
        have HN2 := Lib.hid (HN.out hp)
        clear HI HN hnone
        go_wp2_with (go_at_fn fid; refine hc.mono ?_; rintro e w2 ⟨rfl, hb2⟩)
        go_roundw
        case rel => exact ⟨k + 1, by omega, by go_num, HN2, hb.trans (hb2.mono hb.size)⟩
        case measure => simp [intOf]; omega
    · obtain rfl : k = cs.length := by omega
      have hA : Hid (cs.any q = false) := by
        have h := hnone.out
        rw [List.take_length] at h
        exact List.any_eq_false.2 fun x hx => by rw [h x hx]; decide
      clear hnone
      go_wp2_with fail
      go_ret
      exact ⟨_, rfl, by rw [hA.out]; decide, hb⟩
set_option maxRecDepth 100000 in
set_option maxHeartbeats 1600000 in
theorem fits_any (W H n cap : Nat) (a : Option Addr) (cs : List Clu) (u : List UInt8) (w : World) (hW : 1 ≤ W ∧ W ≤ 8) (hH : 1 ≤ H ∧ H ≤ 8) (h9 : W * H ≤ 9) (hu : u.length = W * H) (hb2 : Brd2 u) (hn : n = cs.length) (hl : cs.length ≤ 1000000) (hc : ∀ c ∈ cs, cluB W H c = true) (hat : At w a (flatC cs)) :
    Calls Try.prog 44 #[.agg #[.int .i64 W, .int .i64 H, .slice a n cap], .agg (encB (preB W (W * H) u)).toArray] w fun e w' => e = .returned (.bool (cs.all (fitC W u))) ∧ Below w.heap.size w w' := by
  subst hn
  have eC : ∀ args w, (callFunc 53 args).run Try.prog w = .ok (.enter 53 args) w := enters_of Try.func53 (by kernel_rfl) rfl
  have HC := Lib.hid (fun (P K0 : Nat) c (hcm : c ∈ cs) w' hP hK0 => fitsCl_any W H cs.length cap P K0 a u c w' hW hH h9 hu hb2 (hc c hcm) hP hK0)
  have HALL : Hid ((!cs.any fun c => !fitC W u c) = cs.all (fitC W u)) := by rw [Hid, List.all_eq_not_any_not]
  generalize preB W (W * H) u = x at *
  have hb : Below w.heap.size w ((w.alloc (.cells #[.int .i64 W, .int .i64 H, .slice a cs.length cap] 30)).alloc (.cells (encB x).toArray 58)) := ((Below.refl _ _).alloc (Nat.le_refl _) _).alloc (by simp) _
  have hG := blk0 w (.cells #[.int .i64 W, .int .i64 H, .slice a cs.length cap] 30) (.cells (encB x).toArray 58)
  have hE := blk1 w (.cells #[.int .i64 W, .int .i64 H, .slice a cs.length cap] 30) (.cells (encB x).toArray 58)
  have hat1 := hat.later rfl hb
  have hmf : ∀ (fn : Fn) (first cap : Array Value) (w : World), (Instr.makeFunc fn first cap).run Try.prog w = .ok (.func fn first cap) w := fun _ _ _ _ => rfl
  clear hc hu hb2 hat
  go_enter Try.func44, Try.ntmps44
  go_upto_region 1 with fail
  generalize (w.alloc (.cells #[.int .i64 W, .int .i64 H, .slice a cs.length cap] 30)).alloc (.cells (encB x).toArray 58) = w1 at *
  have HI := idxC_any 53 #[.pointer (some ⟨w.heap.size, 0, none⟩), .pointer (some ⟨w.heap.size + 1, 0, none⟩)] (fun c => !fitC W u c) a cs.length cap cs w1 rfl hl hat1 eC (fun c hcm W' hbW => HC.out w.heap.size (w.heap.size + 1) c hcm W' ((hbW.block _ (block_lt hG)).trans hG) ((hbW.block _ (block_lt hE)).trans hE))
  have HII := Lib.hid HI
  have f0 := cell_of_block hG 0
  have f1 := cell_of_block hG 1
  have f2 := cell_of_block hG 2
  simp at f0 f1 f2
  clear HI HC hG hE hat1 eC
  go_wp2_with (go_at_call 52; go_in)
  refine HII.out.mono ?_
  rintro e w2 ⟨i, rfl, hi, hb3⟩
  have hiH := Lib.hid hi
  clear hi HII
  go_wp2_with fail
  go_ret
  refine ⟨?_, hb.trans (hb3.mono hb.size)⟩
  show Ending.returned (.bool (!decide (0 ≤ i))) = _
  rw [← HALL.out, ← hiH.out]
end Go.Proofs.Ythlbplmghjaeoaa
