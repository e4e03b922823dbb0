/- Opening: the neighbours that were not open, by the program. -/
import Derived.Test.YtndmkbkmfonefadDoorY2
import Derived.Outline
namespace Go.Proofs.YtndmkbkmfonefadDoor
open Go.RowKit

set_option maxRecDepth 100000 in
set_option maxHeartbeats 1600000 in
theorem openNearJ_any {J : Bool} (W H : Nat) (a : Option Addr) (n cap : Nat) (b : Nat) (L : List Nat) (c : Nat) (w : World) (hM : Marks w b L) (hL : L.length ≤ 1048576) (hW : 1 ≤ W) (hc : c ≤ 63) (hn : n ≤ 64) (hJ : J = true → (1 ≤ W ∧ W ≤ 1048576) ∧ (1 ≤ H ∧ H ≤ 1048576)) :
    Calls Tryd.prog 78 #[.agg #[.int .i64 W, .int .i64 H, .slice a n cap, .bool J], .map (some b), .int .i64 c] w fun e w' => ∃ a' cap', e = .returned (.slice a' (addB L [] (nearM (geoOf J W H) n c)).length cap') ∧
      Owns w' w.heap.size 3 (.slice a' (addB L [] (nearM (geoOf J W H) n c)).length cap') (nats (addB L [] (nearM (geoOf J W H) n c))) ∧ Marks w' b (L ++ addB L [] (nearM (geoOf J W H) n c)) ∧ Touch b w w' := by
  have hnl := nearM_le (geoOf J W H) n c
  have hnlt := nearM_lt (geoOf J W H) n c
  have hbl := hM.lt
  have hnb := fun w => neighboursJ_any W H a n cap c w hW hc hn hJ
  generalize nearM (geoOf J W H) n c = near at *
  have HNB := Lib.hid hnb
  clear hnb
  go_enter Tryd.func78, Tryd.ntmps78
  go_wp2_with fail
  refine (HNB.out _).mono ?_
  rintro e w1 ⟨a', cap', rfl, hown1, hb1⟩
  have hs1 : w.heap.size < w1.heap.size := by have := hb1.size; simp at this; omega
  have hb0 : Below w.heap.size w w1 := ((Below.refl _ _).alloc (Nat.le_refl _) _).trans (hb1.mono (by simp))
  have hat1 := hown1.at
  have hM1 : Marks w1 b L := hM.later hb0
  have ht1 : Touch b w w1 := Touch.of hb0
  clear hown1 hb1 hb0
  go_wp2_with fail
  go_loopw [7, 14] (fun v i wr => ∃ k : Nat, k ≤ near.length ∧ i = .int .i64 k ∧ ∃ acc : List Nat, acc.length ≤ k ∧ Owns wr w1.heap.size 3 v (nats acc) ∧ Marks wr b (L ++ acc) ∧ Touch b w wr ∧ w1.heap.size ≤ wr.heap.size ∧ At wr a' (nats near) ∧ Hid (addB L [] near = addB L acc (near.drop k))) (fun _ i _ => near.length - (intOf i).toNat)
  case atStart => exact ⟨0, Nat.zero_le _, rfl, [], by simp, Owns.nil _ _ _, by simpa using hM1, ht1, Nat.le_refl _, hat1, rfl⟩
  case round =>
    obtain ⟨k, hk, rfl, acc, hacc, hown, hMr, htr, hsr, hatr, hR⟩ := hrel
    by_cases hlt : k < near.length
    · have Ht := Lib.hid (List.drop_eq_getElem_cons hlt)
      have hx64 : near[k] < 1099511627776 := Nat.lt_of_lt_of_le (hnlt _ (List.getElem_mem hlt)) (by omega)
      obtain ⟨g, off, rfl, hcell⟩ := nats_at hatr k hlt
      by_cases hin : near[k] ∈ L ++ acc
      · have hd : decide (near[k] ∈ L ++ acc) = true := by simpa using hin
        have Hin := Lib.hid hin
        have Hd := Lib.hid hd
        clear hin hd
        go_wp2_with (at_lookup; refine wpList_mark_look rfl _ _ rfl b _ rfl hMr _ rfl hx64 true Hd.out ?_)
        go_roundw
        case rel => exact ⟨k + 1, by omega, by go_num, acc, by omega, hown, hMr, htr, hsr, hatr, by rw [Hid, hR.out, Ht.out, addB, if_pos (List.mem_append.1 Hin.out)]⟩
        case measure => simp [intOf]; omega
      · have hd : decide (near[k] ∈ L ++ acc) = false := by simpa using hin
        have Hin := Lib.hid hin
        have Hd := Lib.hid hd
        clear hin hd
        have hll : (L ++ acc).length < 1099511627776 := by simp; omega
        go_wp2_with (first
          | (at_lookup; refine wpList_mark_look rfl _ _ rfl b _ rfl hMr _ rfl hx64 false Hd.out ?_)
          | (at_mapUpdate; refine wpList_mark_put rfl _ _ _ rfl b _ rfl hMr _ rfl hx64 rfl hll ?_; intro w2 hM2 ht2)
          | (at_builtin; refine wpList_app1 rfl _ _ _ rfl _ _ _ _ elemInt _ _ _ _ rfl rfl rfl (hown.touch ht2 (by omega)) rfl (by simp; omega) (by have := ht2.size; omega) (by simp; omega) ?_; intro v1 w3 hown1 hb1 hs1))
        rw [nats_snoc] at hown1
        go_roundw
        case rel => exact ⟨k + 1, by omega, by go_num, _, by simp; omega, hown1, by rw [← List.append_assoc]; exact hM2.kept (by omega) hb1, (htr.trans ht2).then hb1 (by omega), by have := hb1.size; have := ht2.size; omega, (hatr.touch ht2 hMr.nocells).below hat1 (Nat.le_refl _) hb1, by rw [Hid, hR.out, Ht.out, addB, if_neg (fun e => Hin.out (List.mem_append.2 e))]⟩
        case measure => simp [intOf]; omega
    · obtain rfl : k = near.length := by omega
      go_wp2_with fail
      go_ret
      have hfin : acc = addB L [] near := by rw [hR.out]; simp [addB]
      rw [hfin] at hown hMr
      obtain ⟨a2, cap2, hv⟩ := hown.shape
      simp only [nats_length] at hv
      exact ⟨a2, cap2, by rw [← hv]; rfl, by rw [← hv]; exact hown.mono (by omega), hMr, htr⟩
/-- The same where rows are not joined. -/
theorem openNear_any (W H : Nat) (a : Option Addr) (n cap : Nat) (b : Nat) (L : List Nat) (c : Nat) (w : World) (hM : Marks w b L) (hL : L.length ≤ 1048576) (hW : 1 ≤ W) (hc : c ≤ 63) (hn : n ≤ 64) :
    Calls Tryd.prog 78 #[.agg #[.int .i64 W, .int .i64 H, .slice a n cap, .bool false], .map (some b), .int .i64 c] w fun e w' => ∃ a' cap', e = .returned (.slice a' (addB L [] (nearM W n c)).length cap') ∧
      Owns w' w.heap.size 3 (.slice a' (addB L [] (nearM W n c)).length cap') (nats (addB L [] (nearM W n c))) ∧ Marks w' b (L ++ addB L [] (nearM W n c)) ∧ Touch b w w' :=
  openNearJ_any W H a n cap b L c w hM hL hW hc hn nofun
end Go.Proofs.YtndmkbkmfonefadDoor
