/- How many boards fit each clue alone, by the program. -/
import Derived.Test.YtnnbkbjhombblabAK
import Derived.Test.YtnnbkbjhombblabA7
import Derived.Test.YtnnbkbjhombblabA3
namespace Go.Proofs.Ytnnbkbjhombblab
open Go.RowKit

/-- How many boards fit each clue alone. -/
def aloneC (W H : Nat) (cs : List Clu) : List Int := cs.map fun c => ((solC W (W * H) [c]).length : Int)
set_option maxRecDepth 100000 in
set_option maxHeartbeats 1600000 in
theorem countSol_any (W H n cap : Nat) (a : Option Addr) (cs : List Clu) (w : World) (hW : 1 ≤ W ∧ W ≤ 8) (hH : 1 ≤ H ∧ H ≤ 8) (h9 : W * H ≤ 9) (hn : n = cs.length) (hl : cs.length ≤ 1000000) (hc : ∀ c ∈ cs, cluB W H c = true) (hat : At w a (flatC cs)) :
    Calls Try.prog 40 #[.agg #[.int .i64 W, .int .i64 H, .slice a n cap]] w fun e w' => e = .returned (.int .i64 ((solC W (W * H) cs).length : Nat)) ∧ Below w.heap.size w w' := by
  subst hn
  have hb : Below w.heap.size w (w.alloc (.cells #[.int .i64 W, .int .i64 H, .slice a cs.length cap] 30)) := (Below.refl _ _).alloc (Nat.le_refl _) _
  have hat1 := hat.later rfl hb
  have HS := Lib.hid (fun w hat => solutions_any W H cs.length cap a cs w hW hH h9 rfl hl hc hat)
  clear hc hat
  go_enter Try.func40, Try.ntmps40
  go_wp2_with fail
  refine (HS.out _ hat1).mono ?_
  rintro e w1 ⟨v1, rfl, hO1, hb1⟩
  obtain ⟨a2, c2, hv⟩ := hO1.shape
  subst hv
  have hb2 := hb.trans (hb1.mono hb.size)
  clear hb hb1 hat1 hO1
  simp only [List.length_map]
  go_wp2_with fail
  go_ret
  exact ⟨rfl, hb2⟩
set_option maxRecDepth 100000 in
set_option maxHeartbeats 1600000 in
theorem countAlone_any (W H B n cap : Nat) (a : Option Addr) (cs : List Clu) (w : World) (hW : 1 ≤ W ∧ W ≤ 8) (hH : 1 ≤ H ∧ H ≤ 8) (h9 : W * H ≤ 9) (h8 : cs.length ≤ 8) (hc : ∀ c ∈ cs, cluB W H c = true) (hR : RowC w B (.slice a n cap) cs) :
    Calls Try.prog 33 #[.agg #[.int .i64 W, .int .i64 H, .slice a n cap]] w fun e w' => ∃ a' c', e = .returned (.slice a' cs.length c') ∧ Owns w' w.heap.size 3 (.slice a' cs.length c') (ints (aloneC W H cs)) ∧ Below w.heap.size w w' := by
  obtain ⟨a1, cap1, hv⟩ := hR.shape
  obtain ⟨rfl, rfl, rfl⟩ : a = a1 ∧ n = cs.length ∧ cap = cap1 := by simpa using hv
  have hb : Below w.heap.size w (w.alloc (.cells #[.int .i64 W, .int .i64 H, .slice a cs.length cap] 30)) := (Below.refl _ _).alloc (Nat.le_refl _) _
  have hG := heap_alloc_new w (.cells #[.int .i64 W, .int .i64 H, .slice a cs.length cap] 30)
  have HR := Lib.hid (hR.below hb)
  have HC := Lib.hid (fun c (hcm : c ∈ cs) a' w hat => countSol_any W H 1 1 a' [c] w hW hH h9 rfl (by simp) (by simpa using hc c hcm) hat)
  have HP := Lib.hid (fun k w hR hkm hmn => part_any (W : Int) H B cs.length cap k (k + 1) a cs w hR hkm hmn)
  clear hc hR hv
  go_enter Try.func33, Try.ntmps33
  go_upto_region 2 with fail
  generalize w.alloc (.cells #[.int .i64 W, .int .i64 H, .slice a cs.length cap] 30) = w0 at *
  have f0 := cell_of_block hG 0
  have f1 := cell_of_block hG 1
  have f2 := cell_of_block hG 2
  simp at f0 f1 f2
  have HG := Lib.hid hG
  have hGl : w.heap.size < w0.heap.size := block_lt hG
  clear hG
  go_wp2_with fail
  go_loopw [3, 8] (fun v i wr => ∃ k : Nat, k ≤ cs.length ∧ i = .int .i64 k ∧ Owns wr w0.heap.size 3 v (ints (aloneC W H (cs.take k))) ∧ Below w0.heap.size w0 wr) (fun _ i _ => cs.length - (intOf i).toNat)
  case atStart => exact ⟨0, Nat.zero_le _, rfl, Owns.nil _ _ _, Below.refl _ _⟩
  case round =>
    clear f0 f1 f2
    obtain ⟨k, hk, rfl, hown, hbr⟩ := hrel
    by_cases hlt : k < cs.length
    · have hGr := (hbr.block _ hGl).trans HG.out
      have hRr := HR.out.below hbr
      have hak : aloneC W H (cs.take (k + 1)) = aloneC W H (cs.take k) ++ [((solC W (W * H) [cs[k]]).length : Int)] := by
        rw [List.take_succ_eq_append_getElem hlt, aloneC, aloneC, List.map_append]; rfl
      have HAK := Lib.hid hak
      have hll : (aloneC W H (cs.take k)).length = k := by rw [aloneC, List.length_map, List.length_take]; omega
      have hdr : (cs.drop k).take (k + 1 - k) = [cs[k]] := by
        rw [List.drop_eq_getElem_cons hlt, show k + 1 - k = 1 by omega]; rfl
      have hcm := List.getElem_mem hlt
      generalize cs[k] = c at *
      have hpk : 0 < ((k : Int) + 1) := by omega
      have f0 := cell_of_block hGr 0
      have f1 := cell_of_block hGr 1
      have f2 := cell_of_block hGr 2
      simp at f0 f1 f2
      clear hGr hak
      go_wp2_with fail
      refine (HP.out k wr hRr (by omega) (by omega)).mono ?_
      rintro e w1 ⟨a', rfl, hb1, hat1, -⟩
      rw [hdr] at hat1
      have hown1 := hown.later hb1
      have hbr1 := hbr.trans (hb1.mono hbr.size)
      simp only [show k + 1 - k = 1 by omega]
      clear hRr hb1 hown hbr f0 f1 f2
      go_wp2_with fail
      refine (HC.out c hcm a' w1 hat1).mono ?_
      rintro e w2 ⟨rfl, hb2⟩
      have hown2 := hown1.later hb2
      have hbr2 := hbr1.trans (hb2.mono hbr1.size)
      have hs2 := hbr2.size
      clear hb2 hown1 hbr1 hat1
      go_wp2_with (at_builtin; refine wpList_app1 rfl _ _ _ rfl _ _ _ _ elemInt _ _ _ _ rfl rfl rfl hown2 rfl (by simp; omega) hs2 (by simp; omega) ?_; intro v1 w3 hown3 hb3 hs3)
      rw [ints_snoc, ← HAK.out] at hown3
      go_roundw
      case rel => exact ⟨k + 1, by omega, by go_num, hown3, hbr2.trans hb3⟩
      case measure => simp [intOf]; omega
    · obtain rfl : k = cs.length := by omega
      rw [List.take_length] at hown
      obtain ⟨a3, c3, hv⟩ := hown.shape
      subst hv
      have hll : (ints (aloneC W H cs)).length = cs.length := by simp [aloneC]
      rw [hll] at hown
      simp only [hll]
      go_wp2_with fail
      go_ret
      exact ⟨_, _, rfl, hown.mono hb.size, hb.trans (hbr.mono hb.size)⟩
end Go.Proofs.Ytnnbkbjhombblab
