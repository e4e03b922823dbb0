/- Cells open behind clicks: the program, walked. -/
import Derived.Test.YtndmkbkmfonefacDoorV2
import Derived.Outline
namespace Go.Proofs.YtndmkbkmfonefacDoor
open Go.RowKit

/-- A list of clicks as the program keeps it: 64 cells and how many. -/
def lst (cs : List Nat) : Array Value := ((nats cs ++ List.replicate (64 - cs.length) (Value.int .i64 0)) ++ [Value.int .i64 (cs.length : Int)]).toArray
theorem lst_size {cs : List Nat} (h : cs.length ≤ 64) : (lst cs).size = 65 := by simp [lst]; omega
theorem lst_at {cs : List Nat} (k : Nat) (hk : k < cs.length) : (lst cs)[k]? = some (.int .i64 (cs[k] : Int)) := by
  simp only [lst, List.getElem?_toArray]
  rw [List.getElem?_append_left (by simp; omega), List.getElem?_append_left (by simpa using hk)]
  simp [nats, ints, hk]
theorem lst_count {cs : List Nat} (h : cs.length ≤ 64) : (lst cs)[64]? = some (.int .i64 (cs.length : Int)) := by
  simp only [lst, List.getElem?_toArray]
  rw [List.getElem?_append_right (by simp; omega)]
  have e : 64 - (nats cs ++ List.replicate (64 - cs.length) (Value.int .i64 0)).length = 0 := by simp; omega
  rw [e]; rfl

set_option maxRecDepth 100000 in
set_option maxHeartbeats 1600000 in
theorem openAfter_any (W H : Nat) (a : Option Addr) (cells : List UInt8) (cap : Nat) (cs : List Nat) (w : World) (hat : At w a (byts cells)) (h64 : cells.length ≤ 64) (hcs : cs.length ≤ 64) (hW : 0 < cs.length → 1 ≤ W) (hc : ∀ c ∈ cs, c < cells.length) :
    Calls Tryd.prog 65 #[.agg #[.int .i64 W, .int .i64 H, .slice a cells.length cap, .bool false], .agg (lst cs)] w fun e w' => ∃ (b : Nat) (PL : List Nat), e = .returned (.map (some b)) ∧ Marks w' b PL ∧ (∀ x, x ∈ PL ↔ x ∈ aftL cells W [] cs) ∧ w.heap.size ≤ b ∧ Below w.heap.size w w' := by
  have hls := Lib.hid (lst_size hcs)
  have hlc := lst_count hcs
  have hla := fun k hk => lst_at (cs := cs) k hk
  have hmm := @run_makeMap Tryd.prog
  have HC := Lib.hid hc
  have HW := Lib.hid hW
  have HLC := Lib.hid hlc
  have HLA := Lib.hid hla
  generalize hlq : lst cs = lq at *
  have HLQ := Lib.hid hlq
  clear hlq hc hW hlc hla
  go_enter Tryd.func65, Tryd.ntmps65
  go_upto_region 2 with fail
  have hb0 : Below w.heap.size w (((w.alloc (.cells #[.int .i64 W, .int .i64 H, .slice a cells.length cap, .bool false] 42)).alloc (.cells lq 63)).alloc (.map #[] 0)) := (((Below.refl _ _).alloc (Nat.le_refl _) _).alloc (by simp) _).alloc (by simp; omega) _
  have hs0 : (((w.alloc (.cells #[.int .i64 W, .int .i64 H, .slice a cells.length cap, .bool false] 42)).alloc (.cells lq 63)).alloc (.map #[] 0)).heap.size = w.heap.size + 3 := by simp
  have hM0 : Marks (((w.alloc (.cells #[.int .i64 W, .int .i64 H, .slice a cells.length cap, .bool false] 42)).alloc (.cells lq 63)).alloc (.map #[] 0)) (w.heap.size + 1 + 1) [] := by
    have := Marks.made ((w.alloc (.cells #[.int .i64 W, .int .i64 H, .slice a cells.length cap, .bool false] 42)).alloc (.cells lq 63))
    simpa using this
  have hG0 : (((w.alloc (.cells #[.int .i64 W, .int .i64 H, .slice a cells.length cap, .bool false] 42)).alloc (.cells lq 63)).alloc (.map #[] 0)).heap[w.heap.size]? = some (.cells #[.int .i64 W, .int .i64 H, .slice a cells.length cap, .bool false] 42 (0, 0)) := by
    have h1 : Below (w.heap.size + 1) (w.alloc (.cells #[.int .i64 W, .int .i64 H, .slice a cells.length cap, .bool false] 42)) (((w.alloc (.cells #[.int .i64 W, .int .i64 H, .slice a cells.length cap, .bool false] 42)).alloc (.cells lq 63)).alloc (.map #[] 0)) := ((Below.refl _ _).alloc (by simp) _).alloc (by simp) _
    rw [h1.block _ (by omega)]
    exact heap_alloc_new w _
  have hG1 : (((w.alloc (.cells #[.int .i64 W, .int .i64 H, .slice a cells.length cap, .bool false] 42)).alloc (.cells lq 63)).alloc (.map #[] 0)).heap[w.heap.size + 1]? = some (.cells lq 63 (0, 0)) := by
    have h1 : Below (w.heap.size + 2) ((w.alloc (.cells #[.int .i64 W, .int .i64 H, .slice a cells.length cap, .bool false] 42)).alloc (.cells lq 63)) (((w.alloc (.cells #[.int .i64 W, .int .i64 H, .slice a cells.length cap, .bool false] 42)).alloc (.cells lq 63)).alloc (.map #[] 0)) := (Below.refl _ _).alloc (by simp) _
    rw [h1.block _ (by omega)]
    have h2 := heap_alloc_new (w.alloc (.cells #[.int .i64 W, .int .i64 H, .slice a cells.length cap, .bool false] 42)) (.cells lq 63)
    simpa using h2
  have hat0 := hat.later rfl hb0
  generalize ((w.alloc (.cells #[.int .i64 W, .int .i64 H, .slice a cells.length cap, .bool false] 42)).alloc (.cells lq 63)).alloc (.map #[] 0) = w0 at *
  have hk64 := cell_of_block hG1 64
  rw [HLC.out] at hk64
  have HG0 := Lib.hid hG0
  have HG1 := Lib.hid hG1
  have HS0 := Lib.hid hs0
  have HB0 := Lib.hid hb0
  clear hG0 hG1 hs0 hb0 hmm
  go_wp2_with fail
  go_loopw [10] (fun i wr => ∃ (k : Nat) (PL AL : List Nat), k ≤ cs.length ∧ i = .int .i64 k ∧ Marks wr (w.heap.size + 1 + 1) PL ∧ PL.length ≤ 64 * k ∧ Touch (w.heap.size + 1 + 1) w0 wr ∧ Hid (∀ x, x ∈ PL ↔ x ∈ AL) ∧ Hid (Closed (nearM W cells.length) (zeroB cells W) PL) ∧ Hid (aftL cells W [] cs = aftL cells W AL (cs.drop k))) (fun i _ => cs.length - (intOf i).toNat)
  case atStart => exact ⟨0, [], [], Nat.zero_le _, rfl, hM0, by simp, Touch.refl _ _, by simp [Hid], closed_nil, by simp [Hid]⟩
  case round =>
    obtain ⟨k, PL, AL, hk, rfl, hM, hpl, ht, hPA, hCl, hA⟩ := hrel
    have hGr0 : wr.heap[w.heap.size]? = some (.cells #[.int .i64 W, .int .i64 H, .slice a cells.length cap, .bool false] 42 (0, 0)) := by rw [ht.block _ (by have := HS0.out; omega) (by simp; omega)]; exact HG0.out
    have hGr1 : wr.heap[w.heap.size + 1]? = some (.cells lq 63 (0, 0)) := by rw [ht.block _ (by have := HS0.out; omega) (by simp)]; exact HG1.out
    have hf0 := cell_of_block hGr0 0
    have hf1 := cell_of_block hGr0 1
    have hf2 := cell_of_block hGr0 2
    have hf3 := cell_of_block hGr0 3
    simp at hf0 hf1 hf2 hf3
    have hatr := hat0.touch ht hM0.nocells
    by_cases hlt : k < cs.length
    · have Ht := Lib.hid (List.drop_eq_getElem_cons hlt)
      have hck := HC.out _ (List.getElem_mem hlt)
      have hkc := cell_of_block hGr1 k
      rw [HLA.out k hlt] at hkc
      have i64 : (k : Int) < 64 := by omega
      go_wp2_with fail
      go_still_tail 6, (by kernel_rfl)
      change wpList _ _ _ _ _ wr.drew
      have hMd : Marks wr.drew (w.heap.size + 1 + 1) PL := hM
      have hatd : At wr.drew a (byts cells) := hatr.drew
      have htd : Touch (w.heap.size + 1 + 1) w0 wr.drew := ht.trans (Touch.of (⟨rfl, rfl, rfl, Nat.le_refl _, fun _ _ => rfl⟩))
      have hw1 : 1 ≤ W := HW.out (by omega)
      have hbl := bfs_len (L0 := PL) (zero := zeroB cells W) (nearM_lts W cells.length) hck
      have hmem : Hid (∀ x, x ∈ PL ++ bfs (nearM W cells.length) (zeroB cells W) PL cells.length 0 [cs[k]] ↔ x ∈ AL ++ opM cells W cs[k]) := fun x => by
        rw [click_mem cells W cs[k] PL hck hCl.out x, List.mem_append, List.mem_append, hPA.out x]
      have hcl2 : Hid (Closed (nearM W cells.length) (zeroB cells W) (PL ++ bfs (nearM W cells.length) (zeroB cells W) PL cells.length 0 [cs[k]])) := bfs_closed (nearM_lts W cells.length) hck hCl.out
      have hA2 : Hid (aftL cells W [] cs = aftL cells W (AL ++ opM cells W cs[k]) (cs.drop (k + 1))) := by rw [Hid, hA.out, Ht.out, aftL]
      have hpl2 : (PL ++ bfs (nearM W cells.length) (zeroB cells W) PL cells.length 0 [cs[k]]).length ≤ 64 * (k + 1) := by rw [List.length_append]; omega
      generalize wr.drew = wd at *
      clear hGr0 hGr1 hf0 hf1 hf2 hf3 hkc hM hatr ht
      go_wp2_with fail
      refine (click_any W H a cells cap (w.heap.size + 1 + 1) PL cs[k] _ hatd hMd (by omega) hw1 h64 hck).mono ?_
      rintro e w2 ⟨rfl, hM2, ht2⟩
      have ht02 := htd.trans ht2
      clear hMd hatd htd ht2
      go_wp2_with fail
      go_roundw
      case rel => exact ⟨k + 1, _, _, by omega, by go_num, hM2, hpl2, ht02, hmem, hcl2, hA2⟩
      case measure => simp [intOf]; omega
    · obtain rfl : k = cs.length := by omega
      clear hlt
      have hAe : Hid (aftL cells W [] cs = AL) := by rw [Hid, hA.out, List.drop_length]; rfl
      go_wp2_with fail
      go_ret
      exact ⟨_, PL, rfl, hM, fun x => by rw [hAe.out]; exact hPA.out x, by omega, HB0.out.trans (ht.below (by omega) (by have := HS0.out; omega))⟩
end Go.Proofs.YtndmkbkmfonefacDoor
