/- Strips: grids of one row. -/
import Derived.Test.YthlbplmghjaeoaeT1
import Derived.Test.YthlbplmghjaeoaeGN1
import Derived.Test.YthlbplmghjaeoaeHO
namespace Go.Proofs.Ythlbplmghjaeoae
open Go.RowKit

set_option maxRecDepth 100000 in
set_option maxHeartbeats 1600000 in
theorem freeGrid_row (W H : Nat) (w : World) (hW : W ≤ 40) (hH : H = 1) :
    Calls Try.prog 80 #[.int .i64 W, .int .i64 H] w fun e w' => ∃ a cap, e = .returned (.agg #[.int .i64 W, .int .i64 H, .slice a (W * H) cap, .bool false]) ∧ Owns w' w.heap.size 5 (.slice a (W * H) cap) (byts (List.replicate (W * H) 46)) ∧ Below w.heap.size w w' := by
  have h64 : W * H ≤ 64 := by rw [hH]; omega
  clear hH hW
  obtain ⟨n, hn⟩ : ∃ n, W * H = n := ⟨_, rfl⟩
  have e1 : ((W : Int) * (H : Int)) = (n : Int) := by rw [← hn]; simp
  rw [hn] at h64 ⊢
  have HN := Lib.hid hn
  have m1 : wrap64 ((W : Int) * (H : Int)) = (n : Int) := by rw [e1, IntWalk.wrap64_in _ ⟨by omega, by omega⟩]
  clear hn e1
  go_enter Try.func80, Try.ntmps80
  go_wp2_with fail
  rw [m1]
  clear m1
  have hRb : (w.alloc (.cells #[.int .i64 0, .int .i64 0, .slice none 0 0, .bool false] 66)).heap[w.heap.size]? = some (.cells #[.int .i64 0, .int .i64 0, .slice none 0 0, .bool false] 66 (0, 0)) := heap_alloc_new w _
  have hw0 : Below w.heap.size w (w.alloc (.cells #[.int .i64 0, .int .i64 0, .slice none 0 0, .bool false] 66)) := (Below.refl _ _).alloc (Nat.le_refl _) _
  have hs0 : (w.alloc (.cells #[.int .i64 0, .int .i64 0, .slice none 0 0, .bool false] 66)).heap.size = w.heap.size + 1 := by simp
  generalize w.alloc (.cells #[.int .i64 0, .int .i64 0, .slice none 0 0, .bool false] 66) = w1 at *
  generalize hG : w.heap.size + 1 = G at *
  have HG := Lib.hid hG
  clear hG
  have h46 : ∀ k, byts (List.replicate k 46) ++ [.int .u8 46] = byts (List.replicate (k + 1) 46) := fun k => by
    rw [List.replicate_succ', ← byts_append]; rfl
  go_loopw [12] (fun i wr => ∃ k : Nat, k ≤ n ∧ i = .int .i64 k ∧ ∃ va vc, Hid (wr.heap[G]? = some (.cells #[.int .i64 W, .int .i64 H, .slice va k vc, .bool false] 66 (0, 0))) ∧ Owns wr (G + 1) 5 (.slice va k vc) (byts (List.replicate k 46)) ∧ Below G w1 wr) (fun i _ => n - (intOf i).toNat)
  case atStart =>
    refine ⟨0, Nat.zero_le _, rfl, none, 0, ?_, Owns.nil _ _ _, ?_⟩
    · rw [Hid, ← hs0]; exact heap_alloc_new w1 _
    · exact (Below.refl _ _).alloc (by rw [hs0]; exact Nat.le_refl _) _
  case round =>
    obtain ⟨k, hk, rfl, va, vc, hGb, hown, hbw⟩ := hrel
    have hGlt := block_lt hGb.out
    have hf0 := cell_of_block hGb.out 0
    have hf1 := cell_of_block hGb.out 1
    have hf2 := cell_of_block hGb.out 2
    have hf3 := cell_of_block hGb.out 3
    simp at hf0 hf1 hf2 hf3
    have hfr := frozen_of_block hGb.out 2
    by_cases hlt : k < n
    · go_wp2_with (at_builtin; refine wpList_app1 rfl _ _ _ rfl _ _ _ _ elemByte _ _ _ _ rfl rfl rfl hown rfl (by simp; omega) (by omega) (by simp; omega) ?_; intro v1 w2 hown1 hb1 hs1; rw [h46] at hown1; obtain ⟨a1, c1, rfl⟩ := hown1.shape; have hGb2 : w2.heap[G]? = some (.cells #[.int .i64 W, .int .i64 H, .slice va k vc, .bool false] 66 (0, 0)) := (by rw [hb1.block G (by omega)]; exact hGb.out); have hg2 := cell_of_block hGb2 2; simp at hg2; have hfr2 := frozen_of_block hGb2 2; have HGb2 := Lib.hid hGb2; clear hGb2; simp only [byts_length, List.length_replicate] at hown1 ⊢)
      go_roundw
      case rel =>
        refine ⟨k + 1, by omega, by go_num, a1, c1, ?_, ?_, ?_⟩
        · have := block_set HGb2.out 2 (.slice a1 (k + 1) c1)
          rw [Hid]; simpa using this
        · exact hown1.set G 2 (.slice a1 (k + 1) c1) (by omega)
        · exact (hbw.trans (hb1.mono (by omega))).trans (Below.set 2 _)
      case measure => simp [intOf]; omega
    · have hRb2 : wr.heap[w.heap.size]? = some (.cells #[.int .i64 0, .int .i64 0, .slice none 0 0, .bool false] 66 (0, 0)) := by rw [hbw.block _ (by have := HG.out; omega)]; exact hRb
      have hR0 := cell_of_block hRb2 0
      have hR1 := cell_of_block hRb2 1
      have hR2 := cell_of_block hRb2 2
      have hR3 := cell_of_block hRb2 3
      simp at hR0 hR1 hR2 hR3
      have hq0 := frozen_of_block hRb2 0
      have hq1 := frozen_of_block hRb2 1
      have hq2 := frozen_of_block hRb2 2
      have hq3 := frozen_of_block hRb2 3
      have HRb2 := Lib.hid hRb2
      clear hRb2
      obtain rfl : k = n := by omega
      have hGB : w.heap.size < G := by have := HG.out; omega
      go_wp2_with fail
      refine bodyPost_ret (v := .agg #[.int .i64 W, .int .i64 H, .slice va k vc, .bool false]) ?_ rfl ?_
      · have b1 := block_set HRb2.out 0 (.int .i64 W)
        have b2 := block_set b1 1 (.int .i64 H)
        have b3 := block_set b2 2 (.slice va k vc)
        have r0 := cell_of_block b3 0
        have r1 := cell_of_block b3 1
        have r2 := cell_of_block b3 2
        have r3 := cell_of_block b3 3
        simp at r0 r1 r2 r3
        simp [results, Try.results80, go_sem, r0, r1, r2, r3]
      · refine ⟨va, vc, rfl, ?_, ?_⟩
        · exact (((((hown.set w.heap.size 0 _ (by omega)).set w.heap.size 1 _ (by omega)).set w.heap.size 2 _ (by omega)).set w.heap.size 3 (.bool false) (by omega)).mono (by omega))
        · refine Below.trans ?_ ((((Below.set 0 _).trans (Below.set 1 _)).trans (Below.set 2 _)).trans (Below.set 3 _))
          exact hw0.trans (hbw.mono (by omega))

set_option maxRecDepth 100000 in
set_option maxHeartbeats 1600000 in
theorem rowText_row (W H : Nat) (a : Option Addr) (cells : List UInt8) (cap : Nat) (k : Nat) (w : World) (hat : At w a (byts cells)) (hcap : cells.length ≤ cap) (hn : cells.length = W * H) (hW : 1 ≤ W ∧ W ≤ 40) (hH : H = 1) (hk : k < H) :
    Calls Try.prog 75 #[.agg #[.int .i64 W, .int .i64 H, .slice a cells.length cap, .bool false], .int .i64 k] w fun e w' => e = .returned (.string ⟨(rowM cells W k).toArray⟩) ∧ Below w.heap.size w w' := by
  obtain ⟨hW1, hW8⟩ := hW
  have hq : k * W + W ≤ cells.length := by
    rw [hn, ← Nat.succ_mul, Nat.mul_comm]; exact Nat.mul_le_mul_left W hk
  have h64 : cells.length ≤ 64 := by rw [hn, hH]; omega
  have hk8 : k ≤ 8 := by omega
  clear hH
  have e1 : ((k : Int) * (W : Int)) = ((k * W : Nat) : Int) := by simp
  have e2 : (((k : Int) + 1) * (W : Int)) = ((k * W : Nat) : Int) + (W : Int) := by rw [Int.add_mul, e1]; omega
  obtain ⟨p, hp⟩ : ∃ p, k * W = p := ⟨_, rfl⟩
  rw [hp] at e1 e2 hq
  have HP := Lib.hid hp
  clear hp
  have m1 : wrap64 ((k : Int) * (W : Int)) = (p : Int) := by rw [e1, IntWalk.wrap64_in _ ⟨by omega, by omega⟩]
  have m2 : wrap64 (((k : Int) + 1) * (W : Int)) = (p : Int) + (W : Int) := by rw [e2, IntWalk.wrap64_in _ ⟨by omega, by omega⟩]
  have HN := Lib.hid hn
  clear hn e1 e2
  obtain ⟨b, off, he, hc0⟩ := byts_at hat 0 (by omega)
  subst he
  have hbl := World.block_lt_of_cell? w _ hc0
  have hcells : ∀ o, ∀ j (hj : j < (rowM cells W k).length), (w.alloc o).cell? ((⟨b, off + p, none⟩ : Addr).add j) = some (.int .u8 ((rowM cells W k)[j].toNat : Int)) := by
    intro o j hj
    have hj' : j < W := by simp [rowM] at hj; omega
    obtain ⟨b', off', he', hc'⟩ := byts_at hat (p + j) (by omega)
    simp only [Option.some.injEq, Addr.mk.injEq, and_true] at he'
    obtain ⟨rfl, rfl⟩ := he'
    have e3 : (⟨b, off + p, none⟩ : Addr).add j = ⟨b, off + (p + j), none⟩ := by
      unfold Addr.add
      by_cases hz : j = 0
      · subst hz; rw [if_pos rfl]; rfl
      · rw [if_neg hz]; simp [Nat.add_assoc]
    rw [e3, cell_new w o b hbl, hc']
    simp [rowM, HP.out]
  have hlen : Hid ((rowM cells W k).length = W) := by rw [Hid, rowM, HP.out]; simp; omega
  have hcv := fun o c => run_convert_bytes_back (P := Try.prog) (w.alloc o) 64 9 5 ⟨b, off + p, none⟩ c (rowM cells W k) Try.underlying64 Try.underlying5 Try.underlying9 (hcells o)
  rw [hlen.out] at hcv
  clear hcells hc0
  go_enter Try.func75, Try.ntmps75
  go_wp2_with fail
  go_ret
  exact ⟨rfl, (Below.refl _ _).alloc (Nat.le_refl _) _⟩

theorem near_row : ∀ n : Fin 41, ∀ c : Fin 40, c.val < n.val → nearM n.val n.val c.val = (if 0 < c.val then [c.val - 1] else []) ++ (if c.val + 1 < n.val then [c.val + 1] else []) := by decide +kernel
end Go.Proofs.Ythlbplmghjaeoae
