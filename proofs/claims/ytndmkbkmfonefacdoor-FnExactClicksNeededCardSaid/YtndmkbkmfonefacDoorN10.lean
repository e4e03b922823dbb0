/- Walks: the cells of a sign that have no mine beside them: the model's zeros and lonely mines, the program's. -/
import Derived.Test.YtndmkbkmfonefacDoorN9
import Derived.Test.YtndmkbkmfonefacDoorE
import Derived.Outline
namespace Go.Proofs.YtndmkbkmfonefacDoor
open Go.RowKit

/-- The cells of a sign with the number 0, from k on. -/
def zGo (cells : List UInt8) (W : Geo) (s : UInt8) (k : Nat) : Nat → List Nat
  | 0 => []
  | m + 1 => if cells.getD k 0 = s ∧ numM cells W k = 0 then k :: zGo cells W s (k + 1) m else zGo cells W s (k + 1) m
def zOf (s : UInt8) (l : List UInt8) : List Nat := zGo (gCells l) (gW l) s 0 (gCells l).length
theorem zGo_le (cells : List UInt8) (W : Geo) (s : UInt8) : ∀ (m k : Nat), (zGo cells W s k m).length ≤ m
  | 0, _ => by simp [zGo]
  | m + 1, k => by
    have := zGo_le cells W s m (k + 1)
    unfold zGo; split <;> simp <;> omega
theorem zOf_len (s : UInt8) (l : List UInt8) : (zOf s l).length ≤ 1048576 := by
  have := zGo_le (gCells l) (gW l) s (gCells l).length 0
  have := gCells_le l
  unfold zOf; omega

set_option maxRecDepth 100000 in
set_option maxHeartbeats 3200000 in
theorem withoutJ_any {J : Bool} (W H : Nat) (a : Option Addr) (cells : List UInt8) (cap : Nat) (s : UInt8) (sc : Int) (hsc : sc = (s.toNat : Int)) (w : World) (hat : At w a (byts cells)) (h64 : cells.length ≤ 64) (hw1 : 0 < cells.length → 1 ≤ W) (hJ : J = true → (1 ≤ W ∧ W ≤ 1048576) ∧ (1 ≤ H ∧ H ≤ 1048576)) :
    Calls Tryd.prog 69 #[.agg #[.int .i64 W, .int .i64 H, .slice a cells.length cap, .bool J], .int .u8 sc] w fun e w' => ∃ a' cap', e = .returned (.slice a' (zGo cells (geoOf J W H) s 0 cells.length).length cap') ∧ Owns w' w.heap.size 3 (.slice a' (zGo cells (geoOf J W H) s 0 cells.length).length cap') (nats (zGo cells (geoOf J W H) s 0 cells.length)) ∧ Below w.heap.size w w' := by
  subst hsc
  go_enter Tryd.func69, Tryd.ntmps69
  go_wp2_with fail
  have hG1 : (w.alloc (.cells #[.int .i64 W, .int .i64 H, .slice a cells.length cap, .bool J] 42)).heap[w.heap.size]? = some (.cells #[.int .i64 W, .int .i64 H, .slice a cells.length cap, .bool J] 42 (0, 0)) := heap_alloc_new w _
  have hw0 : Below w.heap.size w (w.alloc (.cells #[.int .i64 W, .int .i64 H, .slice a cells.length cap, .bool J] 42)) := (Below.refl _ _).alloc (Nat.le_refl _) _
  have hs0 : w.heap.size < (w.alloc (.cells #[.int .i64 W, .int .i64 H, .slice a cells.length cap, .bool J] 42)).heap.size := by simp
  have hat0 : At (w.alloc (.cells #[.int .i64 W, .int .i64 H, .slice a cells.length cap, .bool J] 42)) a (byts cells) := hat.later rfl hw0
  generalize w.alloc (.cells #[.int .i64 W, .int .i64 H, .slice a cells.length cap, .bool J] 42) = w0 at *
  have HG1 := Lib.hid hG1
  clear hG1
  go_loopw [5, 10] (fun v i wr => ∃ k : Nat, k ≤ cells.length ∧ i = .int .i64 k ∧ ∃ acc : List Nat, acc.length ≤ k ∧ Owns wr (w.heap.size + 1) 3 v (nats acc) ∧ Below (w.heap.size + 1) w0 wr ∧ At wr a (byts cells) ∧ Hid (zGo cells (geoOf J W H) s 0 cells.length = acc ++ zGo cells (geoOf J W H) s k (cells.length - k))) (fun _ i _ => cells.length - (intOf i).toNat)
  case atStart => exact ⟨0, Nat.zero_le _, rfl, [], by simp, Owns.nil _ _ _, Below.refl _ _, hat0, by simp [Hid]⟩
  case round =>
    obtain ⟨k, hk, rfl, acc, hacc, hown, hbr, hatr, hR⟩ := hrel
    have hGr : wr.heap[w.heap.size]? = some (.cells #[.int .i64 W, .int .i64 H, .slice a cells.length cap, .bool J] 42 (0, 0)) := by rw [hbr.block _ (by omega)]; exact HG1.out
    have hGlt := block_lt hGr
    have hf0 := cell_of_block hGr 0
    have hf1 := cell_of_block hGr 1
    have hf2 := cell_of_block hGr 2
    have hf3 := cell_of_block hGr 3
    simp at hf0 hf1 hf2 hf3
    clear hGr
    by_cases hlt : k < cells.length
    · have hW1 := hw1 (by omega)
      have hatk := hatr
      obtain ⟨b, off, he, hc⟩ := byts_at hatr k hlt
      subst he
      have hgd : Hid (cells.getD k 0 = cells[k]) := by simp [Hid, List.getD, hlt]
      have hst : Hid (zGo cells (geoOf J W H) s k (cells.length - k) = if cells[k] = s ∧ numM cells (geoOf J W H) k = 0 then k :: zGo cells (geoOf J W H) s (k + 1) (cells.length - (k + 1)) else zGo cells (geoOf J W H) s (k + 1) (cells.length - (k + 1))) := by
        rw [Hid, show cells.length - k = (cells.length - (k + 1)) + 1 by omega, zGo, hgd.out]
      by_cases hs : cells[k] = s
      · have hd : ((cells[k].toNat : Int) == (s.toNat : Int)) = true := by rw [u8_eq_int]; simp [hs]
        have HS := Lib.hid hs
        clear hs
        by_cases h0 : numM cells (geoOf J W H) k = 0
        · have hd2 : ((numM cells (geoOf J W H) k : Int) == 0) = true := by simp [h0]
          have H0 := Lib.hid h0
          clear h0
          go_wp2_with fail
          refine (numberJ_any W H _ cells cap k _ hatk hW1 hlt h64 hJ).mono ?_
          rintro e w3 ⟨rfl, hb3⟩
          have s3 := hb3.size
          go_wp2_with (at_builtin; refine wpList_app1 rfl _ _ _ rfl _ _ _ _ elemInt _ _ _ _ rfl rfl rfl (hown.later hb3) rfl (by simp; omega) (by omega) (by simp; omega) ?_; intro v1 w4 hown1 hb4 hs4)
          rw [nats_snoc] at hown1
          go_roundw
          case rel =>
            first
              | exact ⟨k + 1, by omega, by go_num, _, by simp; omega, hown1, (hbr.trans (hb3.mono (by omega))).trans hb4, (hatk.later rfl hb3).below hat (by omega) hb4, by rw [Hid, hR.out, hst.out, if_pos ⟨HS.out, H0.out⟩]; simp⟩
              | ((repeat apply Exists.intro); exact ⟨⟨k + 1, by omega, by go_num, _, by simp; omega, hown1, (hbr.trans (hb3.mono (by omega))).trans hb4, (hatk.later rfl hb3).below hat (by omega) hb4, by rw [Hid, hR.out, hst.out, if_pos ⟨HS.out, H0.out⟩]; simp⟩, rfl⟩)
          case measure => simp [intOf]; omega
        · have hd2 : ((numM cells (geoOf J W H) k : Int) == 0) = false := by simp [h0]
          have H0 := Lib.hid h0
          clear h0
          go_wp2_with fail
          refine (numberJ_any W H _ cells cap k _ hatk hW1 hlt h64 hJ).mono ?_
          rintro e w3 ⟨rfl, hb3⟩
          have s3 := hb3.size
          go_wp2_with fail
          go_roundw
          case rel =>
            first
              | exact ⟨k + 1, by omega, by go_num, acc, by omega, hown.later hb3, hbr.trans (hb3.mono (by omega)), hatk.later rfl hb3, by rw [Hid, hR.out, hst.out, if_neg (fun q => H0.out q.2)]⟩
              | ((repeat apply Exists.intro); exact ⟨⟨k + 1, by omega, by go_num, acc, by omega, hown.later hb3, hbr.trans (hb3.mono (by omega)), hatk.later rfl hb3, by rw [Hid, hR.out, hst.out, if_neg (fun q => H0.out q.2)]⟩, rfl⟩)
          case measure => simp [intOf]; omega
      · have hd : ((cells[k].toNat : Int) == (s.toNat : Int)) = false := by rw [u8_eq_int]; simp [hs]
        have HS := Lib.hid hs
        clear hs
        go_wp2_with fail
        go_roundw
        case rel =>
          first
            | exact ⟨k + 1, by omega, by go_num, acc, by omega, hown, hbr, hatk, by rw [Hid, hR.out, hst.out, if_neg (fun q => HS.out q.1)]⟩
            | ((repeat apply Exists.intro); exact ⟨⟨k + 1, by omega, by go_num, acc, by omega, hown, hbr, hatk, by rw [Hid, hR.out, hst.out, if_neg (fun q => HS.out q.1)]⟩, rfl⟩)
        case measure => simp [intOf]; omega
    · obtain rfl : k = cells.length := by omega
      have hfin : acc = zGo cells (geoOf J W H) s 0 cells.length := by rw [hR.out]; simp [zGo]
      go_wp2_with fail
      go_ret
      rw [hfin] at hown
      obtain ⟨a', cap', hv⟩ := hown.shape
      simp only [nats_length] at hv
      exact ⟨a', cap', by rw [← hv]; rfl, by rw [← hv]; exact hown.mono (by omega), hw0.trans (hbr.mono (by omega))⟩
/-- The same where rows are not joined. -/
theorem without_any (W H : Nat) (a : Option Addr) (cells : List UInt8) (cap : Nat) (s : UInt8) (sc : Int) (hsc : sc = (s.toNat : Int)) (w : World) (hat : At w a (byts cells)) (h64 : cells.length ≤ 64) (hw1 : 0 < cells.length → 1 ≤ W) :
    Calls Tryd.prog 69 #[.agg #[.int .i64 W, .int .i64 H, .slice a cells.length cap, .bool false], .int .u8 sc] w fun e w' => ∃ a' cap', e = .returned (.slice a' (zGo cells W s 0 cells.length).length cap') ∧ Owns w' w.heap.size 3 (.slice a' (zGo cells W s 0 cells.length).length cap') (nats (zGo cells W s 0 cells.length)) ∧ Below w.heap.size w w' :=
  withoutJ_any W H a cells cap s sc hsc w hat h64 hw1 nofun
end Go.Proofs.YtndmkbkmfonefacDoor
