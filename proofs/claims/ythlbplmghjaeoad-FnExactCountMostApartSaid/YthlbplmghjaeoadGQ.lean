/- CountMostApart by the program. -/
import Derived.Test.YthlbplmghjaeoadGGO
import Derived.Test.YthlbplmghjaeoadGJ5
import Derived.Outline
namespace Go.Proofs.Ythlbplmghjaeoad
open Go.RowKit

theorem baK_any (x : LB) : ∀ k, x.baK k = (List.range k).any fun i => (((x.at i).toNat : Int) == 42) && decide (0 < ((x.at (12 + i)).toNat : Int))
  | 0 => rfl
  | k + 1 => by rw [LB.baK, baK_any x k, List.range_succ, List.any_append]; simp
theorem pre_ba (W H : Nat) (hW : W ≤ 8) (hH : H ≤ 8) (h12 : W * H ≤ 12) (c : List UInt8) (hc : c.length = W * H) : (!(preB W (W * H) c).ba) = aptB c W := by
  rw [LB.ba, baK_any, aptB, Bool.eq_iff_iff, Bool.not_eq_true', Bool.eq_false_iff, ne_eq, List.any_eq_true, List.all_eq_true]
  constructor
  · intro h i hi
    rw [List.mem_range, hc] at hi
    rw [apaB, Bool.not_eq_true', Bool.eq_false_iff, ne_eq, Bool.and_eq_true, decide_eq_true_eq, decide_eq_true_eq]
    rintro ⟨h1, h2⟩
    refine h ⟨i, List.mem_range.2 (by omega), ?_⟩
    rw [Bool.and_eq_true, beq_iff_eq, decide_eq_true_eq, pre_at W (W * H) c i (by omega), h1, pre_numM W H hW hH h12 c hc i hi]
    exact ⟨by decide, by omega⟩
  · rintro h ⟨i, hi, hx⟩
    rw [List.mem_range] at hi
    rw [Bool.and_eq_true, beq_iff_eq, decide_eq_true_eq] at hx
    have hin : i < W * H := by
      rcases Nat.lt_or_ge i (W * H) with q | q
      · exact q
      · have h1 := hx.1
        rw [pre_at_out W (W * H) c hc i hi q] at h1
        exact absurd h1 (by decide)
    have h2 := h i (List.mem_range.2 (by omega))
    rw [apaB, Bool.not_eq_true', Bool.eq_false_iff, ne_eq, Bool.and_eq_true, decide_eq_true_eq, decide_eq_true_eq] at h2
    rw [pre_at W (W * H) c i hi, pre_numM W H hW hH h12 c hc i hin] at hx
    refine h2 ⟨?_, by omega⟩
    have h3 : (c.getD i 0).toNat = 42 := by omega
    exact UInt8.toNat_inj.1 (by rw [h3]; rfl)
theorem mostA_in (W H : Nat) : 0 ≤ mostA W H ∧ mostA W H ≤ (W : Int) * (H : Int) := by
  have e : mostA W H = (((W + 1) / 2 * ((H + 1) / 2) : Nat) : Int) := by unfold mostA; simp
  rw [e, ← Int.natCast_mul]
  have h := Nat.mul_le_mul (show (W + 1) / 2 ≤ W by omega) (show (H + 1) / 2 ≤ H by omega)
  omega
set_option maxRecDepth 100000 in
theorem mostApart_some (w h : Int) (ws : World) :
    Calls Try.prog 64 #[.int .i64 w, .int .i64 h] ws fun e w' => ∃ m, e = .returned (.int .i64 m) ∧ ws = w' := by
  go_enter Try.func64, Try.ntmps64
  go_wp2_with fail
  go_ret
  exact ⟨_, rfl, rfl⟩
theorem cm_eq (W H : Nat) (hW : W ≤ 8) (hH : H ≤ 8) (h12 : W * H ≤ 12) (hs : szB W H 12 = true) : cwN W H (mostA W H) [⟨65, #[], fun x => !x.ba⟩] = cmM W H ∧ cbB W H (mostA W H) = true := by
  have hm := mostA_in W H
  have hb : cbB W H (mostA W H) = true := by rw [cbB, hs, Bool.true_and, inB_iff]; exact hm
  refine ⟨?_, hb⟩
  rw [cwN, if_pos hb, cmM, if_pos hs]
  simp only [Int.toNat_natCast]
  rw [mns_count W H h12 (mostA W H) hm.1 (fun x => [(⟨65, #[], fun x => !x.ba⟩ : Cnd)].all fun c => c.p x) (fun c => aptB c W) fun c hc => by
    simp only [List.all_cons, List.all_nil, Bool.and_true]
    exact pre_ba W H hW hH h12 c (allM_len hc)]
  rw [allM_mines _ _ hm.1, List.filter_filter]
  congr 1
  refine List.filter_congr fun c _ => ?_
  rw [cmB, aptM]
  cases ha : aptB c W
  · simp; omega
  · simp
set_option maxRecDepth 100000 in
set_option maxHeartbeats 400000 in
theorem iCountMostApart_any (w h : Int) (ws : World) :
    Calls Try.prog 29 #[.int .i64 w, .int .i64 h] ws fun e w' => e = .returned (.tuple #[.int .i64 (cmM w h : Nat), .bool (szB w h 12)]) ∧ Below ws.heap.size ws w' := by
  have eC : ∀ args w, (callFunc 65 args).run Try.prog w = .ok (.enter 65 args) w := enters_of Try.func65 (by kernel_rfl) rfl
  have hcw := fun (m : Int) (w1 : World) (a : Option Addr) (ca : Nat) (hat : At w1 a [.func (.func 65) #[] #[]]) => countWithMines_any w h m [⟨65, #[], fun x => !x.ba⟩] a ca w1 (by simp) (fun c hc => by
    obtain rfl : c = ⟨65, #[], fun x => !x.ba⟩ := by simpa using hc
    exact ⟨eC, fun x W _ => lbApart_any x W⟩) hat
  have hma : ∀ wr, Calls Try.prog 64 #[.int .i64 w, .int .i64 h] wr fun e w' => ∃ m, e = .returned (.int .i64 m) ∧ cwN w h m [⟨65, #[], fun x => !x.ba⟩] = cmM w h ∧ cbB w h m = szB w h 12 ∧ wr = w' := fun wr => by
    rcases sz_case w h 12 with hs | ⟨hs, W, H, rfl, rfl, hW1, hW2, hH1, hH2, hn⟩
    · refine (mostApart_some w h wr).mono ?_
      rintro e w1 ⟨m, rfl, rfl⟩
      have hb : cbB w h m = false := by rw [cbB, hs]; rfl
      exact ⟨m, rfl, by rw [cwN, hb, cmM, hs]; rfl, by rw [hb, hs], rfl⟩
    · refine (mostApart_any W H hW2 hH2 wr).mono ?_
      rintro e w1 ⟨rfl, rfl⟩
      obtain ⟨c1, c2⟩ := cm_eq W H hW2 hH2 (by omega) hs
      exact ⟨_, rfl, c1, by rw [hs]; exact c2, rfl⟩
  have HCW := Lib.hid hcw
  have HMA := Lib.hid hma
  clear hcw eC hma
  go_enter Try.func29, Try.ntmps29
  go_wp2_with fail
  refine (HMA.out _).mono ?_
  rintro e w1 ⟨m, rfl, c1, c2, rfl⟩
  have hc := HCW.out m
  rw [c1, c2] at hc
  have HC := Lib.hid hc
  clear hc c1 c2 HCW HMA
  go_wp2_with fail
  refine (HC.out _ (some ⟨ws.heap.size, 0, none⟩) 1 (fun k hk => by
    have h0 : k = 0 := by simp at hk; omega
    subst h0
    exact ⟨_, _, rfl, by simp⟩)).mono ?_
  rintro e w2 ⟨rfl, hb2⟩
  have hb1 : Below ws.heap.size ws w2 := Below.trans ((Below.refl _ _).alloc (Nat.le_refl _) _) (hb2.mono (by simp))
  clear hb2
  go_wp2_with fail
  go_ret2
  exact ⟨rfl, hb1⟩
end Go.Proofs.Ythlbplmghjaeoad
