/- Strips: the text of a grid of one row. -/
import Derived.Test.YthlbplmghjaeoaeHS
namespace Go.Proofs.Ythlbplmghjaeoae
open Go.RowKit

set_option maxRecDepth 100000 in
set_option maxHeartbeats 1600000 in
/-- A single text is joined. -/
theorem join_one (b off cap : Nat) (x : ByteArray) (sep : ByteArray) (w : World) (hc : w.cell? ⟨b, off, none⟩ = some (.string x)) :
    Calls Try.prog 76 #[.slice (some ⟨b, off, none⟩) 1 cap, .string sep] w fun e w' => e = .returned (.string x) ∧ w' = w := by
  go_enter Try.func76, Try.ntmps76
  go_wp2_with fail
  go_ret
  exact ⟨rfl, rfl⟩

set_option maxRecDepth 100000 in
set_option maxHeartbeats 1600000 in
theorem text_row (a : Option Addr) (cells : List UInt8) (cap : Nat) (w : World) (hat : At w a (byts cells)) (hcap : cells.length ≤ cap) (h1 : 1 ≤ cells.length) (h40 : cells.length ≤ 40) :
    Calls Try.prog 62 #[.agg #[.int .i64 (cells.length : Nat), .int .i64 1, .slice a cells.length cap, .bool false]] w fun e w' => e = .returned (.string ⟨cells.toArray⟩) ∧ Below w.heap.size w w' := by
  have hrt : ∀ w, At w a (byts cells) → Calls Try.prog 75 #[.agg #[.int .i64 (cells.length : Nat), .int .i64 1, .slice a cells.length cap, .bool false], .int .i64 0] w fun e w' => e = .returned (.string ⟨cells.toArray⟩) ∧ Below w.heap.size w w' := fun w h => by
    have h2 := rowText_row cells.length 1 a cells cap 0 w h hcap (Nat.mul_one _).symm ⟨h1, h40⟩ rfl (by decide)
    rw [show rowM cells cells.length 0 = cells by simp [rowM]] at h2
    exact h2
  have HRT := Lib.hid hrt
  clear hrt
  go_enter Try.func62, Try.ntmps62
  go_wp2_with fail
  have hw1 : Below (w.heap.size + 1) (w.alloc (.cells #[.int .i64 (cells.length : Nat), .int .i64 1, .slice a cells.length cap, .bool false] 66)) (w.alloc (.cells #[.int .i64 (cells.length : Nat), .int .i64 1, .slice a cells.length cap, .bool false] 66)) := Below.refl _ _
  have hG1 : (w.alloc (.cells #[.int .i64 (cells.length : Nat), .int .i64 1, .slice a cells.length cap, .bool false] 66)).heap[w.heap.size]? = some (.cells #[.int .i64 (cells.length : Nat), .int .i64 1, .slice a cells.length cap, .bool false] 66 (0, 0)) := heap_alloc_new w _
  have hw0 : Below w.heap.size w (w.alloc (.cells #[.int .i64 (cells.length : Nat), .int .i64 1, .slice a cells.length cap, .bool false] 66)) := (Below.refl _ _).alloc (Nat.le_refl _) _
  have hs1 : (w.alloc (.cells #[.int .i64 (cells.length : Nat), .int .i64 1, .slice a cells.length cap, .bool false] 66)).heap.size = w.heap.size + 1 := by simp
  generalize w.alloc (.cells #[.int .i64 (cells.length : Nat), .int .i64 1, .slice a cells.length cap, .bool false] 66) = w1 at *
  have hat1 : At w1 a (byts cells) := hat.later rfl hw0
  have HG1 := Lib.hid hG1
  clear hG1
  go_loopw [3, 7] (fun v i wr => ∃ k : Nat, k ≤ 1 ∧ i = .int .i64 k ∧ Owns wr (w.heap.size + 1) 9 v (txts (List.replicate k cells)) ∧ Below (w.heap.size + 1) w1 wr ∧ At wr a (byts cells)) (fun _ i _ => 1 - (intOf i).toNat)
  case atStart => exact ⟨0, Nat.zero_le _, rfl, Owns.nil _ _ _, hw1, hat1⟩
  case round =>
    obtain ⟨k, hk, rfl, hown, hb, hatr⟩ := hrel
    have hGr : wr.heap[w.heap.size]? = some (.cells #[.int .i64 (cells.length : Nat), .int .i64 1, .slice a cells.length cap, .bool false] 66 (0, 0)) := by rw [hb.block _ (by omega)]; exact HG1.out
    have hGlt := block_lt hGr
    have hf0 := cell_of_block hGr 0
    have hf1 := cell_of_block hGr 1
    have hf2 := cell_of_block hGr 2
    have hf3 := cell_of_block hGr 3
    simp at hf0 hf1 hf2 hf3
    clear hGr
    cases k with
    | zero =>
      rw [show (((0 : Nat)) : Int) = 0 from rfl]
      go_wp2_with fail
      refine (HRT.out _ hatr).mono ?_
      rintro e w2 ⟨rfl, hb2⟩
      have hown2 := hown.later hb2
      have s2 := hb2.size
      have sb := hb.size
      go_wp2_with (at_builtin; refine wpList_app1 rfl _ _ _ rfl _ _ _ _ elemStr _ _ _ _ rfl rfl rfl hown2 rfl (by simp) (by omega) (by simp) ?_; intro v1 w4 hown1 hb4 hs4)
      have hown1' : Owns w4 (w.heap.size + 1) 9 v1 (txts (List.replicate 1 cells)) := hown1
      have hat2 := hatr.later rfl hb2
      have hb24 : Below (w.heap.size + 1) w1 w4 := (hb.trans (hb2.mono (by omega))).trans hb4
      have hat4 : At w4 a (byts cells) := hat1.below hat1 (by omega) hb24
      go_roundw
      case rel => exact ⟨1, by omega, by go_num, hown1', hb24, hat4⟩
      case measure => simp [intOf]
    | succ m =>
      obtain rfl : m = 0 := by omega
      rw [show (((0 + 1 : Nat)) : Int) = 1 from rfl]
      obtain ⟨a', cap', hv⟩ := hown.shape
      have hv' : _ = Value.slice a' 1 cap' := hv
      subst hv'
      obtain ⟨bk, o, he, hblk⟩ := (hown.at).lt (by simp)
      subst he
      obtain ⟨b2, o2, e2, hcx⟩ := txts_at hown.at 0 (by simp)
      simp only [Option.some.injEq, Addr.mk.injEq, and_true] at e2
      obtain ⟨rfl, rfl⟩ := e2
      have HJ := Lib.hid (join_one bk o cap' ⟨cells.toArray⟩ ⟨#[47]⟩ wr hcx)
      clear hcx hown hv
      go_wp2_with fail
      refine HJ.out.mono ?_
      rintro e w5 ⟨rfl, rfl⟩
      go_wp2_with fail
      go_ret
      exact ⟨rfl, hw0.trans (hb.mono (by omega))⟩
end Go.Proofs.Ythlbplmghjaeoae
