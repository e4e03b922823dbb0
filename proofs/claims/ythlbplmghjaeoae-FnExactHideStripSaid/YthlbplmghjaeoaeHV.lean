/- Strips: what is seen of a row. -/
import Derived.Test.YthlbplmghjaeoaeHU
import Derived.Test.YthlbplmghjaeoaeH2
import Derived.Test.YthlbplmghjaeoaeGY1
import Derived.Test.YthlbplmghjaeoaeVL
namespace Go.Proofs.Ythlbplmghjaeoae
open Go.RowKit

theorem Owns.putR {w : World} {B e g n cap : Nat} {xs : List Value} (h : Owns w B e (.slice (some ⟨g, 0, none⟩) n cap) xs) (j : Nat) (u : Value) :
    Owns (w.setCell ⟨g, j, none⟩ u) B e (.slice (some ⟨g, 0, none⟩) n cap) (xs.set j u) := by
  obtain ⟨a', cap', hv⟩ := h.shape
  have hn : n = xs.length := by simp at hv; exact hv.2.1
  subst hn
  have := (World.ownsRow.stored h j u).1
  unfold Owns
  rw [List.length_set]
  exact this
theorem Owns.zeroR {w : World} {B e n cap : Nat} {a : Option Addr} {xs : List Value} (h : Owns w B e (.slice a n cap) xs) (h0 : 0 < xs.length) :
    ∃ g, a = some ⟨g, 0, none⟩ ∧ B ≤ g ∧ g < w.heap.size := by
  obtain ⟨_, h2⟩ := id h
  rcases h2 with ⟨_, hn⟩ | ⟨g, cap', cur, hv, hg, _⟩
  · omega
  · simp at hv
    obtain ⟨rfl, _, _⟩ := hv
    exact ⟨g, rfl, h.lt g rfl⟩
theorem Owns.frozR {w : World} {B e g n cap : Nat} {xs : List Value} (h : Owns w B e (.slice (some ⟨g, 0, none⟩) n cap) xs) (j : Nat) : w.frozen? ⟨g, j, none⟩ = false := by
  obtain ⟨a', cap', hv⟩ := h.shape
  simp at hv
  obtain ⟨_, rfl, _⟩ := hv
  exact World.ownsRow.frozenAt (n := xs.length) (cap := cap) h j
theorem byts_setR (l : List UInt8) (k : Nat) (c : UInt8) : (byts l).set k (.int .u8 (c.toNat : Int)) = byts (l.set k c) := by
  simp [byts, List.map_set]


/-- The sign that is seen of a cell. -/
def seeB (cells : List UInt8) (W : Nat) (op : Nat → Bool) (k : Nat) : UInt8 := if op k = true then digB (numM cells W k) else 63
def seeM (cells : List UInt8) (W : Nat) (op : Nat → Bool) : List UInt8 := (List.range cells.length).map (seeB cells W op)
/-- Behind k rounds: the first k are written. -/
def seeK (cells : List UInt8) (W : Nat) (op : Nat → Bool) (k : Nat) : List UInt8 := (List.range k).map (seeB cells W op) ++ List.replicate (cells.length - k) 46
theorem seeK_length {cells : List UInt8} {W : Nat} {op : Nat → Bool} {k : Nat} (hk : k ≤ cells.length) : (seeK cells W op k).length = cells.length := by simp [seeK]; omega
theorem seeK_set {cells : List UInt8} {W : Nat} {op : Nat → Bool} {k : Nat} (hk : k < cells.length) : (seeK cells W op k).set k (seeB cells W op k) = seeK cells W op (k + 1) := by
  have e : List.replicate (cells.length - k) (46 : UInt8) = 46 :: List.replicate (cells.length - (k + 1)) 46 := by
    rw [show cells.length - k = (cells.length - (k + 1)) + 1 by omega, List.replicate_succ]
  rw [seeK, seeK, e, List.set_append_right _ _ (by simp), List.range_succ, List.map_append]
  simp
theorem seeK_all (cells : List UInt8) (W : Nat) (op : Nat → Bool) : seeK cells W op cells.length = seeM cells W op := by simp [seeK, seeM]
@[simp] theorem seeM_length (cells : List UInt8) (W : Nat) (op : Nat → Bool) : (seeM cells W op).length = cells.length := by simp [seeM]

theorem blockAwayW {w : World} {g b : Nat} (h : b ≠ g) (j : Nat) (v : Value) : (w.setCell ⟨g, j, none⟩ v).heap[b]? = w.heap[b]? := by
  simp [World.setCell, Array.getElem?_modify, Ne.symm h]

/-- Cells as keys. -/
def keyN : KeyLay Try.prog 3 Nat where
  enc := fun k => .int .i64 (k : Int)
  lit := keyI
  ok := fun k => k < 64
  keyed := keyedI
  key := fun k h => keyI_of k (Nat.lt_trans h (by decide))
  inj := fun x y _ _ h => by
    have h' : (x : Int) = (y : Int) := by simpa using h
    omega
  isKey := fun _ => trivial
set_option maxRecDepth 100000 in
set_option maxHeartbeats 3200000 in
theorem seenText_row (W H : Nat) (a : Option Addr) (cells : List UInt8) (cap b : Nat) (nE : Nat) (f : Nat → Option Value) (op : Nat → Bool) (w : World) (hat : At w a (byts cells)) (hM : VM keyN w b nE f) (hop : ∀ k, k < 64 → (f k).getD (.bool false) = .bool (op k)) (hn : cells.length = W * H) (hW : 1 ≤ W ∧ W ≤ 40) (hH : H = 1) :
    Calls Try.prog 70 #[.agg #[.int .i64 W, .int .i64 H, .slice a cells.length cap, .bool false], .map (some b)] w fun e w' => e = .returned (.string ⟨(seeM cells W op).toArray⟩) ∧ Below w.heap.size w w' := by
  have hWn : cells.length = W := by rw [hn, hH, Nat.mul_one]
  have h64 : cells.length ≤ 64 := by omega
  have h40 : cells.length ≤ 40 := by omega
  have hW1 : 1 ≤ W := hW.1
  have HN := Lib.hid hn
  have hfg := fun w => freeGrid_row W H w hW.2 hH
  rw [← hn] at hfg
  have HFG := Lib.hid hfg
  have HHH := Lib.hid hH
  have HWN := Lib.hid hWn
  have HOPV := Lib.hid hop
  clear hfg hn hH hWn hop
  have hb0 : Below w.heap.size w (w.alloc (.cells #[.int .i64 W, .int .i64 H, .slice a cells.length cap, .bool false] 66)) := (Below.refl _ _).alloc (Nat.le_refl _) _
  have hG0 : (w.alloc (.cells #[.int .i64 W, .int .i64 H, .slice a cells.length cap, .bool false] 66)).heap[w.heap.size]? = some (.cells #[.int .i64 W, .int .i64 H, .slice a cells.length cap, .bool false] 66 (0, 0)) := heap_alloc_new w _
  have hs0 : (w.alloc (.cells #[.int .i64 W, .int .i64 H, .slice a cells.length cap, .bool false] 66)).heap.size = w.heap.size + 1 := by simp
  have hat0 : At (w.alloc (.cells #[.int .i64 W, .int .i64 H, .slice a cells.length cap, .bool false] 66)) a (byts cells) := hat.later rfl hb0
  have hM0 := hM.later keyN hb0
  go_enter Try.func70, Try.ntmps70
  go_wp2_with fail
  generalize w.alloc (.cells #[.int .i64 W, .int .i64 H, .slice a cells.length cap, .bool false] 66) = w0 at *
  refine (HFG.out _).mono ?_
  rintro e w1 ⟨a1, c1, rfl, hown1, hb1⟩
  go_wp2_with fail
  have s1 := hb1.size
  have hb2 : Below w0.heap.size w0 (w1.alloc (.cells #[.int .i64 W, .int .i64 H, .slice a1 cells.length c1, .bool false] 66)) := hb1.alloc s1 _
  have hS2 : (w1.alloc (.cells #[.int .i64 W, .int .i64 H, .slice a1 cells.length c1, .bool false] 66)).heap[w1.heap.size]? = some (.cells #[.int .i64 W, .int .i64 H, .slice a1 cells.length c1, .bool false] 66 (0, 0)) := heap_alloc_new w1 _
  have hs2 : (w1.alloc (.cells #[.int .i64 W, .int .i64 H, .slice a1 cells.length c1, .bool false] 66)).heap.size = w1.heap.size + 1 := by simp
  have hown2 := hown1.later ((Below.refl _ w1).alloc (Nat.le_refl _) (.cells #[.int .i64 W, .int .i64 H, .slice a1 cells.length c1, .bool false] 66))
  have hblt := Lib.hid hown1.lt
  have hcap := hown1.cap
  generalize w1.alloc (.cells #[.int .i64 W, .int .i64 H, .slice a1 cells.length c1, .bool false] 66) = w2 at *
  have HG0 := Lib.hid hG0
  have HS2 := Lib.hid hS2
  have HZ2 := Lib.hid hs2
  generalize w1.heap.size = n1 at *
  clear hG0 hS2 hs2 hown1 hb1
  have hsz0 := hs0
  clear hs0
  go_loopw [15] (fun i wr => ∃ k : Nat, k ≤ cells.length ∧ i = .int .i64 k ∧ Owns wr w0.heap.size 5 (.slice a1 cells.length c1) (byts (seeK cells W op k)) ∧ Below w0.heap.size w0 wr ∧ Hid (wr.heap[n1]? = some (.cells #[.int .i64 W, .int .i64 H, .slice a1 cells.length c1, .bool false] 66 (0, 0)))) (fun i _ => cells.length - (intOf i).toNat)
  case atStart => exact ⟨0, Nat.zero_le _, rfl, by simpa [seeK] using hown2, hb2, HS2.out⟩
  case round =>
    obtain ⟨k, hk, rfl, hownr, hbr, hSr⟩ := hrel
    have hx0 := cell_of_block hSr.out 0
    have hx1 := cell_of_block hSr.out 1
    have hx2 := cell_of_block hSr.out 2
    have hx3 := cell_of_block hSr.out 3
    simp at hx0 hx1 hx2 hx3
    have sr := hbr.size
    by_cases hlt : k < cells.length
    · have HLK := Lib.hid (seeK_length (cells := cells) (W := W) (op := op) (Nat.le_of_lt hlt))
      obtain ⟨g, rfl, hg1, hg2⟩ := hownr.zeroR (by have := HLK.out; simp; omega)
      have hgn : g < n1 := (hblt.out g rfl).2
      obtain ⟨old, hcell⟩ : ∃ v, wr.cell? ⟨g, k, none⟩ = some v := by
        obtain ⟨g', o', he, hcell⟩ := byts_at hownr.at k (by have := HLK.out; omega)
        simp only [Option.some.injEq, Addr.mk.injEq, and_true] at he
        obtain ⟨rfl, rfl⟩ := he
        rw [Nat.zero_add] at hcell
        exact ⟨_, hcell⟩
      have hfr := hownr.frozR k
      have HSet := Lib.hid (seeK_set (cells := cells) (W := W) (op := op) hlt)
      have hM3   : VM keyN (wr.setCell ⟨g, k, none⟩ (.int .u8 63)) b nE f := hM0.later keyN (hbr.trans ((Below.set k _).mono hg1))
      have hown3 : Owns (wr.setCell ⟨g, k, none⟩ (.int .u8 63)) w0.heap.size 5 (.slice (some ⟨g, 0, none⟩) cells.length c1) (byts ((seeK cells W op k).set k 63)) := by
        have h := hownr.putR k (.int .u8 ((63 : UInt8).toNat : Int))
        rw [byts_setR] at h
        exact h
      have hS3 := (blockAwayW (w := wr) (show n1 ≠ g by omega) k (.int .u8 63)).trans hSr.out
      have hb3 : Below w0.heap.size w0 (wr.setCell ⟨g, k, none⟩ (.int .u8 63)) := hbr.trans ((Below.set k _).mono hg1)
      have hy0 := cell_of_block hS3 0
      have hy1 := cell_of_block hS3 1
      have hy2 := cell_of_block hS3 2
      have hy3 := cell_of_block hS3 3
      simp at hy0 hy1 hy2 hy3
      cases hop : op k with
      | false =>
        have Hv : Hid ((f k).getD (.bool false) = .bool false) := by rw [Hid, HOPV.out k (by omega), hop]
        have HB : Hid (seeB cells W op k = 63) := by rw [Hid, seeB, hop]; rfl
        have hs3 := HSet.out
        rw [HB.out] at hs3
        have HS3 := Lib.hid hs3
        clear hs3 hop
        go_wp2_with (at_lookup; refine wpList_vm_look keyN rfl _ _ _ _ rfl Try.underlying79 (.bool false) (zeroBool _) b nE f rfl hM3 k rfl (show k < 64 by omega) ?_; rw [Hv.out])
        go_roundw
        case rel => exact ⟨k + 1, by omega, by go_num, by rw [← HS3.out]; exact hown3, hb3, hS3⟩
        case measure => simp [intOf]; omega
      | true =>
        have Hv : Hid ((f k).getD (.bool false) = .bool true) := by rw [Hid, HOPV.out k (by omega), hop]
        have HB : Hid (seeB cells W op k = digB (numM cells W k)) := by rw [Hid, seeB, hop]; rfl
        clear hop
        go_wp2_with (at_lookup; refine wpList_vm_look keyN rfl _ _ _ _ rfl Try.underlying79 (.bool false) (zeroBool _) b nE f rfl hM3 k rfl (show k < 64 by omega) ?_; rw [Hv.out])
        have h9 : numM cells W k ≤ 9 := by
          have h1 := num_row cells k hlt h40
          rw [HWN.out] at h1
          have h2 := nmT_le cells k
          omega
        have hnum := fun w h => number_any W H a cells cap k w h hW1 hlt h64
        have hs3 := hb3.size
        have hGlt : w.heap.size < (wr.setCell ⟨g, k, none⟩ (.int .u8 63)).heap.size := by omega
        have hG3 : (wr.setCell ⟨g, k, none⟩ (.int .u8 63)).heap[w.heap.size]? = some (.cells #[.int .i64 W, .int .i64 H, .slice a cells.length cap, .bool false] 66 (0, 0)) := (hb3.block _ (by omega)).trans HG0.out
        have hat3 : At (wr.setCell ⟨g, k, none⟩ (.int .u8 63)) a (byts cells) := hat0.later rfl hb3
        have hn13 : n1 < (wr.setCell ⟨g, k, none⟩ (.int .u8 63)).heap.size := block_lt hS3
        clear hx0 hx1 hx2 hx3 hcell hfr hownr hbr hSr hM3 hy0 hy1 hy2 hy3
        generalize wr.setCell ⟨g, k, none⟩ (.int .u8 63) = w3 at *
        have hA : ∀ w' : World, Below w3.heap.size w3 w' → w'.cell? ⟨w.heap.size, 0, none⟩ = some (.int .i64 W) ∧ w'.cell? ⟨w.heap.size, 1, none⟩ = some (.int .i64 H) ∧ w'.cell? ⟨w.heap.size, 2, none⟩ = some (.slice a cells.length cap) ∧ w'.cell? ⟨w.heap.size, 3, none⟩ = some (.bool false) ∧ w'.cell? ⟨n1, 2, none⟩ = some (.slice (some ⟨g, 0, none⟩) cells.length c1) ∧ w'.cell? ⟨n1, 3, none⟩ = some (.bool false) := by
          intro w' h
          have q := (h.block _ hGlt).trans hG3
          have r := (h.block _ hn13).trans hS3
          have q0 := cell_of_block q 0
          have q1 := cell_of_block q 1
          have q2 := cell_of_block q 2
          have q3 := cell_of_block q 3
          have r2 := cell_of_block r 2
          have r3 := cell_of_block r 3
          simp at q0 q1 q2 q3 r2 r3
          exact ⟨q0, q1, q2, q3, r2, r3⟩
        have hdr : Below w3.heap.size w3 w3.drew := (Below.refl _ w3).drew
        have HA := Lib.hid hA
        have hAS : ∀ (w' : World) (v : Value), Below w3.heap.size w3 w' → (w'.setCell ⟨g, k, none⟩ v).cell? ⟨w.heap.size, 0, none⟩ = some (.int .i64 W) ∧ (w'.setCell ⟨g, k, none⟩ v).cell? ⟨w.heap.size, 1, none⟩ = some (.int .i64 H) ∧ (w'.setCell ⟨g, k, none⟩ v).cell? ⟨w.heap.size, 2, none⟩ = some (.slice a cells.length cap) ∧ (w'.setCell ⟨g, k, none⟩ v).cell? ⟨w.heap.size, 3, none⟩ = some (.bool false) ∧ (w'.setCell ⟨g, k, none⟩ v).cell? ⟨n1, 2, none⟩ = some (.slice (some ⟨g, 0, none⟩) cells.length c1) ∧ (w'.setCell ⟨g, k, none⟩ v).cell? ⟨n1, 3, none⟩ = some (.bool false) := by
          intro w' v h
          have q := (blockAwayW (w := w') (show w.heap.size ≠ g by omega) k v).trans ((h.block _ hGlt).trans hG3)
          have r := (blockAwayW (w := w') (show n1 ≠ g by omega) k v).trans ((h.block _ hn13).trans hS3)
          have q0 := cell_of_block q 0
          have q1 := cell_of_block q 1
          have q2 := cell_of_block q 2
          have q3 := cell_of_block q 3
          have r2 := cell_of_block r 2
          have r3 := cell_of_block r 3
          simp at q0 q1 q2 q3 r2 r3
          exact ⟨q0, q1, q2, q3, r2, r3⟩
        have HAS := Lib.hid hAS
        have hown3d : ∀ w', Below w3.heap.size w3 w' → ∃ old, w'.cell? ⟨g, k, none⟩ = some old ∧ w'.frozen? ⟨g, k, none⟩ = false := by
          intro w' h
          have ho := hown3.later h
          obtain ⟨g', o', he, hcell⟩ := byts_at ho.at k (by rw [List.length_set]; have := HLK.out; omega)
          simp only [Option.some.injEq, Addr.mk.injEq, and_true] at he
          obtain ⟨rfl, rfl⟩ := he
          rw [Nat.zero_add] at hcell
          exact ⟨_, hcell, ho.frozR k⟩
        have HOD := Lib.hid hown3d
        clear hown3d hA hAS hG3
        go_region_held3 (fun w' => w'.cell? ⟨w.heap.size, 0, none⟩ = some (.int .i64 W) ∧ w'.cell? ⟨w.heap.size, 1, none⟩ = some (.int .i64 H) ∧ w'.cell? ⟨w.heap.size, 2, none⟩ = some (.slice a cells.length cap) ∧ w'.cell? ⟨w.heap.size, 3, none⟩ = some (.bool false) ∧ w'.cell? ⟨n1, 2, none⟩ = some (.slice (some ⟨g, 0, none⟩) cells.length c1) ∧ w'.cell? ⟨n1, 3, none⟩ = some (.bool false))
          (first | with_reducible exact HA.out _ hdr | with_reducible exact HA.out _ hb34 | with_reducible exact HAS.out _ _ hb34)
          ((first | (go_at_call 87; refine (hnum _ (by exact hat3.drew)).mono ?_; rintro e w4 ⟨rfl, hb4⟩; have hb34 : Below w3.heap.size w3 w4 := ofDrew hb4; obtain ⟨old4, hc4, hf4⟩ := HOD.out _ hb34) | (go_at_call 86; refine (digit_any _ _ h9).mono ?_; rintro e w5 ⟨rfl, rfl⟩)))
        have hown4 := (hown3.later hb34).putR k (.int .u8 ((digB (numM cells W k)).toNat : Int))
        rw [byts_setR, List.set_set, ← HB.out, HSet.out] at hown4
        have hS4 := (blockAwayW (w := w4) (show n1 ≠ g by omega) k (.int .u8 ((digB (numM cells W k)).toNat : Int))).trans ((hb34.block _ hn13).trans hS3)
        have hb4' := (hb3.trans (hb34.mono hs3)).trans ((Below.set (w := w4) (g := g) k (.int .u8 ((digB (numM cells W k)).toNat : Int))).mono hg1)
        rw [HB.out] at hown4
        clear hnum hb4 hc4 hf4
        go_wp2_with fail
        go_roundw
        case rel => exact ⟨k + 1, by omega, by go_num, hown4, hb4', hS4⟩
        case measure => simp [intOf]; omega
    · obtain rfl : k = cells.length := by omega
      have ht : ∀ w, At w a1 (byts (seeM cells W op)) → cells.length ≤ c1 → Calls Try.prog 62 #[.agg #[.int .i64 (W : Nat), .int .i64 (H : Nat), .slice a1 cells.length c1, .bool false]] w fun e w' => e = .returned (.string ⟨(seeM cells W op).toArray⟩) ∧ Below w.heap.size w w' := fun w h hc => by
        have q := text_row a1 (seeM cells W op) c1 w h (by rw [seeM_length]; exact hc) (by rw [seeM_length, HWN.out]; exact hW1) (by rw [seeM_length]; exact h40)
        have e : ((cells.length : Nat) : Int) = (W : Int) := by rw [HWN.out]
        rw [seeM_length, e] at q
        rw [HHH.out]
        exact q
      rw [seeK_all] at hownr
      have hat1 := hownr.at
      have HT := Lib.hid ht
      clear ht
      go_wp2_with fail
      refine (HT.out _ hat1 hcap).mono ?_
      rintro e w5 ⟨rfl, hb5⟩
      go_wp2_with fail
      go_ret
      exact ⟨rfl, (hb0.trans (hbr.mono (by omega))).trans (hb5.mono (by omega))⟩
end Go.Proofs.Ythlbplmghjaeoae
