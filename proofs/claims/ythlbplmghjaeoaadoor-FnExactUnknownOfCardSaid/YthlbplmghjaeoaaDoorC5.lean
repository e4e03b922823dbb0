/- Notes: read by the program, kept as a text of cells, and laid as a grid again. -/
import Derived.Test.YthlbplmghjaeoaaDoorC2
import Derived.Lib.ConvBytes
import Derived.Outline
namespace Go.Proofs.YthlbplmghjaeoaaDoor
open Go.RowKit

theorem conv_back (w : World) (a : Option Addr) (cap : Nat) (l : List UInt8) (hat : At w a (byts l)) : (convert 56 9 (.slice a l.length cap)).run Tryd.prog w = .ok (.string ⟨l.toArray⟩) w := by
  cases hl : l with
  | nil =>
    have e : (convert 56 9 (.slice a 0 cap)).run Tryd.prog w = .ok (.string ByteArray.empty) w := by
      rw [run_convert_bytes_string w 56 9 5 a 0 cap Tryd.underlying56 Tryd.underlying5 Tryd.underlying9]
      cases a <;> simp [Conv.bytesToString, loadCells]
      all_goals rfl
    exact e
  | cons c r =>
    rw [← hl]
    obtain ⟨b, off, rfl, _⟩ := byts_at hat 0 (by rw [hl]; simp)
    refine run_convert_bytes_back w 56 9 5 ⟨b, off, none⟩ cap l Tryd.underlying56 Tryd.underlying5 Tryd.underlying9 fun j hj => ?_
    obtain ⟨b', off', he', hc'⟩ := byts_at hat j hj
    simp only [Option.some.injEq, Addr.mk.injEq, and_true] at he'
    obtain ⟨rfl, rfl⟩ := he'
    have e3 : (⟨b, off, none⟩ : Addr).add j = ⟨b, off + j, none⟩ := by
      unfold Addr.add
      by_cases hz : j = 0
      · subst hz; rw [if_pos rfl]; rfl
      · rw [if_neg hz]
    rw [e3, hc']

/-- The call owns the bytes that a text was laid as, from block B on. -/
def OwnB (w : World) (B : Nat) (a : Option Addr) (cap : Nat) (cells : List UInt8) : Prop :=
  ∃ g cur lo hi, a = some ⟨g, 0, none⟩ ∧ B ≤ g ∧ w.heap[g]? = some (.cells cur 5 (lo, hi)) ∧ cur.toList.take cells.length = byts cells ∧ cells.length ≤ cap ∧ cells.length ≤ lo ∧ cells.length ≤ cur.size
theorem OwnB.cap {w : World} {B cap : Nat} {a : Option Addr} {cells : List UInt8} (h : OwnB w B a cap cells) : cells.length ≤ cap := by
  obtain ⟨_, _, _, _, _, _, _, _, h, _⟩ := h
  exact h
theorem OwnB.addr {w : World} {B cap : Nat} {a : Option Addr} {cells : List UInt8} (h : OwnB w B a cap cells) : ∃ g, a = some ⟨g, 0, none⟩ ∧ B ≤ g ∧ g < w.heap.size := by
  obtain ⟨g, _, _, _, h1, h2, h3, _⟩ := h
  exact ⟨g, h1, h2, block_lt h3⟩
theorem OwnB.at {w : World} {B cap : Nat} {a : Option Addr} {cells : List UInt8} (h : OwnB w B a cap cells) : At w a (byts cells) := by
  obtain ⟨g, cur, lo, hi, rfl, _, hh, ht, _, _, hs⟩ := h
  intro k hk
  simp only [byts_length] at hk
  refine ⟨g, 0, rfl, ?_⟩
  have e : (byts cells)[k]? = (cur.toList.take cells.length)[k]? := by rw [ht]
  rw [List.getElem?_take_of_lt hk, List.getElem?_eq_getElem (by simpa using hk)] at e
  rw [cell_of_block hh, Nat.zero_add, e]
  simp
theorem OwnB.below {w w' : World} {B C cap : Nat} {a : Option Addr} {cells : List UInt8} (h : OwnB w B a cap cells) (hC : ∀ g, a = some ⟨g, 0, none⟩ → g < C) (hb : Below C w w') : OwnB w' B a cap cells := by
  obtain ⟨g, cur, lo, hi, h1, h2, hh, r⟩ := h
  exact ⟨g, cur, lo, hi, h1, h2, (hb.block g (hC g h1)).trans hh, r⟩
theorem OwnB.later {w w' : World} {B cap : Nat} {a : Option Addr} {cells : List UInt8} (h : OwnB w B a cap cells) (hb : Below w.heap.size w w') : OwnB w' B a cap cells := by
  obtain ⟨g, h1, _, h3⟩ := h.addr
  refine h.below (fun g' hg => ?_) hb
  rw [h1] at hg
  simp at hg
  omega
theorem OwnB.mono {w : World} {B B' cap : Nat} {a : Option Addr} {cells : List UInt8} (h : OwnB w B a cap cells) (hB : B' ≤ B) : OwnB w B' a cap cells := by
  obtain ⟨g, cur, lo, hi, h1, h2, r⟩ := h
  exact ⟨g, cur, lo, hi, h1, Nat.le_trans hB h2, r⟩
theorem OwnB.set {w : World} {B cap : Nat} {a : Option Addr} {cells : List UInt8} (h : OwnB w B a cap cells) (g j : Nat) (u : Value) (hg : g < B) : OwnB (w.setCell ⟨g, j, none⟩ u) B a cap cells := by
  obtain ⟨g', cur, lo, hi, h1, h2, hh, r⟩ := h
  exact ⟨g', cur, lo, hi, h1, h2, by rw [Below.heap_setCell _ _ _ _ (by simp; omega)]; exact hh, r⟩
theorem OwnB.froz {w : World} {B cap g : Nat} {cells : List UInt8} (h : OwnB w B (some ⟨g, 0, none⟩) cap cells) (j : Nat) (hj : j < cells.length) : w.frozen? ⟨g, j, none⟩ = false := by
  obtain ⟨g', cur, lo, hi, h1, _, hh, _, _, hlo, _⟩ := h
  obtain rfl : g = g' := by simpa using h1
  simp [World.frozen?, hh]
  omega
theorem OwnB.put {w : World} {B cap g : Nat} {cells : List UInt8} (h : OwnB w B (some ⟨g, 0, none⟩) cap cells) (j : Nat) (c : UInt8) : OwnB (w.setCell ⟨g, j, none⟩ (.int .u8 (c.toNat : Int))) B (some ⟨g, 0, none⟩) cap (cells.set j c) := by
  obtain ⟨g', cur, lo, hi, h1, h2, hh, h3, h4, h5, h6⟩ := h
  obtain rfl : g = g' := by simpa using h1
  refine ⟨g, cur.setIfInBounds j (.int .u8 (c.toNat : Int)), lo, hi, rfl, h2, block_set hh j _, ?_, by simpa using h4, by simpa using h5, by simpa using h6⟩
  rw [List.length_set, Array.toList_setIfInBounds, List.take_set, h3, byts_set]

theorem conv_bytes (w : World) (cells : List UInt8) : ∃ cap wb, (convert 9 56 (.string ⟨cells.toArray⟩)).run Tryd.prog w = .ok (.slice (some ⟨w.heap.size, 0, none⟩) cells.length cap) wb ∧ OwnB wb w.heap.size (some ⟨w.heap.size, 0, none⟩) cap cells ∧ Below w.heap.size w wb := by
  have h := run_bytes_of_string (P := Tryd.prog) w 9 56 5 ⟨cells.toArray⟩ Tryd.underlying9 Tryd.underlying56 Tryd.underlying5
  have hsz : (ByteArray.mk cells.toArray).size = cells.length := by simp [ByteArray.size]
  have hge := grownCap_ge w cells.length 0 5
  rw [hsz] at h
  generalize grownCap w cells.length 0 5 = cap at *
  have hd : Below w.heap.size w w.drew := ⟨rfl, rfl, rfl, Nat.le_refl _, fun _ _ => rfl⟩
  have hrow : (bytesRow ⟨cells.toArray⟩ cap).size = cap := by simp [bytesRow, ByteArray.size]; omega
  refine ⟨cap, _, h, ⟨w.heap.size, _, _, _, rfl, Nat.le_refl _, heap_alloc_new w.drew _, ?_, hge, ?_, ?_⟩, hd.alloc (Nat.le_refl _) _⟩
  · simp [bytesRow, byts, ByteArray.size]
  · rw [hrow]; exact hge
  · rw [hrow]; exact hge

/-- Notes as the program keeps them. -/
def ntV (W H : Nat) (cells : List UInt8) : Value := .agg #[.int .i64 W, .int .i64 H, .string ⟨cells.toArray⟩]

set_option maxRecDepth 100000 in
set_option maxHeartbeats 1600000 in
theorem notesOf_any (W H : Nat) (a : Option Addr) (cells : List UInt8) (cap : Nat) (w : World) (hat : At w a (byts cells)) :
    Calls Tryd.prog 88 #[.agg #[.int .i64 W, .int .i64 H, .slice a cells.length cap, .bool false]] w fun e w' => e = .returned (ntV W H cells) ∧ Below w.heap.size w w' := by
  have hb0 : Below w.heap.size w (w.alloc (.cells #[.int .i64 W, .int .i64 H, .slice a cells.length cap, .bool false] 58)) := (Below.refl _ _).alloc (Nat.le_refl _) _
  have hc0 := conv_back _ a cap cells (hat.later rfl (hb0.alloc hb0.size (.cells #[.int .i64 0, .int .i64 0, .string ⟨#[]⟩] 84)))
  go_enter Tryd.func88, Tryd.ntmps88
  go_wp2_with fail
  refine bodyPost_ret (v := ntV W H cells) ?_ rfl ⟨rfl, hb0.alloc hb0.size _⟩
  simp [results, Tryd.results88, go_sem, ntV]

set_option maxRecDepth 100000 in
set_option maxHeartbeats 1600000 in
theorem ngrid_any (W H : Nat) (cells : List UInt8) (w : World) :
    Calls Tryd.prog 89 #[ntV W H cells] w fun e w' => ∃ a cap, e = .returned (.agg #[.int .i64 W, .int .i64 H, .slice a cells.length cap, .bool false]) ∧ OwnB w' w.heap.size a cap cells ∧ Below w.heap.size w w' := by
  unfold ntV
  have hb0 : Below w.heap.size w ((w.alloc (.cells #[.int .i64 W, .int .i64 H, .string ⟨cells.toArray⟩] 84)).alloc (.cells #[.int .i64 0, .int .i64 0, .slice none 0 0, .bool false] 58)) := ((Below.refl _ w).alloc (Nat.le_refl _) _).alloc (by simp) _
  have hR0 : ((w.alloc (.cells #[.int .i64 W, .int .i64 H, .string ⟨cells.toArray⟩] 84)).alloc (.cells #[.int .i64 0, .int .i64 0, .slice none 0 0, .bool false] 58)).heap[w.heap.size + 1]? = some (.cells #[.int .i64 0, .int .i64 0, .slice none 0 0, .bool false] 58 (0, 0)) := by
    have := heap_alloc_new (w.alloc (.cells #[.int .i64 W, .int .i64 H, .string ⟨cells.toArray⟩] 84)) (.cells #[.int .i64 0, .int .i64 0, .slice none 0 0, .bool false] 58)
    simpa using this
  have hs0 : ((w.alloc (.cells #[.int .i64 W, .int .i64 H, .string ⟨cells.toArray⟩] 84)).alloc (.cells #[.int .i64 0, .int .i64 0, .slice none 0 0, .bool false] 58)).heap.size = w.heap.size + 2 := by simp
  obtain ⟨cap, wb, hcv, hown, hb⟩ := conv_bytes ((w.alloc (.cells #[.int .i64 W, .int .i64 H, .string ⟨cells.toArray⟩] 84)).alloc (.cells #[.int .i64 0, .int .i64 0, .slice none 0 0, .bool false] 58)) cells
  have hRb := (hb.block (w.heap.size + 1) (by rw [hs0]; omega)).trans hR0
  have hR0' := cell_of_block hRb 0
  have hR1' := cell_of_block hRb 1
  have hR2' := cell_of_block hRb 2
  have hR3' := cell_of_block hRb 3
  simp at hR0' hR1' hR2' hR3'
  have hq0 := frozen_of_block hRb 0
  have hq1 := frozen_of_block hRb 1
  have hq2 := frozen_of_block hRb 2
  have hq3 := frozen_of_block hRb 3
  have hRlt := block_lt hRb
  have HR := Lib.hid hRb
  rw [hs0] at hown hb
  have HO := Lib.hid hown
  have HB := Lib.hid hb
  have HB0 := Lib.hid hb0
  clear hRb hR0 hs0 hown hb hb0
  go_enter Tryd.func89, Tryd.ntmps89
  go_wp2_with fail
  have b3 := block_set (block_set (block_set (block_set HR.out 0 (.int .i64 W)) 1 (.int .i64 H)) 2 (.slice (some ⟨w.heap.size + 2, 0, none⟩) cells.length cap)) 3 (.bool false)
  refine bodyPost_ret (v := .agg #[.int .i64 W, .int .i64 H, .slice (some ⟨w.heap.size + 2, 0, none⟩) cells.length cap, .bool false]) ?_ rfl ?_
  · have r0 := cell_of_block b3 0
    have r1 := cell_of_block b3 1
    have r2 := cell_of_block b3 2
    have r3 := cell_of_block b3 3
    simp at r0 r1 r2 r3
    simp [results, Tryd.results89, go_sem, r0, r1, r2, r3]
  · refine ⟨_, cap, rfl, ((((HO.out.set _ _ _ (by omega)).set _ _ _ (by omega)).set _ _ _ (by omega)).set _ _ _ (by omega)).mono (by omega), ?_⟩
    exact (HB0.out.trans (HB.out.mono (by omega))).trans (((((Below.set 0 _).trans (Below.set 1 _)).trans (Below.set 2 _)).trans (Below.set 3 _)).mono (by omega))

set_option maxRecDepth 100000 in
set_option maxHeartbeats 1600000 in
theorem readNotes_any (l : List UInt8) (w : World) (hM : HasMax w) (hl : l.length ≤ 1048576) :
    Calls Tryd.prog 55 #[.string ⟨l.toArray⟩] w fun e w' => e = .returned (.tuple #[ntV (grW noteSign l) (grH noteSign l) (grC noteSign l), .bool (gridM noteSign l)]) ∧ Below w.heap.size w w' := by
  go_enter Tryd.func55, Tryd.ntmps55
  go_wp2_with fail
  have hb0 : Below w.heap.size w (w.alloc (.cells #[.int .i64 0, .int .i64 0, .string ⟨#[]⟩] 84)) := (Below.refl _ _).alloc (Nat.le_refl _) _
  have hR0 : (w.alloc (.cells #[.int .i64 0, .int .i64 0, .string ⟨#[]⟩] 84)).heap[w.heap.size]? = some (.cells #[.int .i64 0, .int .i64 0, .string ⟨#[]⟩] 84 (0, 0)) := heap_alloc_new w _
  have hs0 : w.heap.size < (w.alloc (.cells #[.int .i64 0, .int .i64 0, .string ⟨#[]⟩] 84)).heap.size := by simp
  generalize w.alloc (.cells #[.int .i64 0, .int .i64 0, .string ⟨#[]⟩] 84) = w0 at *
  refine (readGrid_any noteSign 87 signs_note l _ (hM.later hb0) hl).mono ?_
  rintro e w1 ⟨a, cap, rfl, hown, hb⟩
  have s1 := hb.size
  generalize hWe : grW noteSign l = W at *
  generalize hHe : grH noteSign l = H at *
  generalize hCe : grC noteSign l = cells at *
  generalize hOe : gridM noteSign l = ok at *
  have HWE := Lib.hid hWe
  have HHE := Lib.hid hHe
  have HCE := Lib.hid hCe
  have HOE := Lib.hid hOe
  clear hWe hHe hCe hOe
  have hba : Below w1.heap.size w1 (w1.alloc (.cells #[.int .i64 W, .int .i64 H, .slice a cells.length cap, .bool false] 58)) := (Below.refl _ _).alloc (Nat.le_refl _) _
  have hat := (hown.later hba).at
  have HNO := Lib.hid (notesOf_any W H a cells cap _ hat)
  go_wp2_with fail
  refine HNO.out.mono ?_
  rintro e w2 ⟨rfl, hb2⟩
  unfold ntV
  have hb12 := hba.trans (hb2.mono (by simp))
  have hR2 := (hb12.block w.heap.size (by omega)).trans ((hb.block _ hs0).trans hR0)
  have hR0' := cell_of_block hR2 0
  have hR1' := cell_of_block hR2 1
  have hR2' := cell_of_block hR2 2
  simp at hR0' hR1' hR2'
  have hq0 := frozen_of_block hR2 0
  have hq1 := frozen_of_block hR2 1
  have hq2 := frozen_of_block hR2 2
  have hRlt := block_lt hR2
  have HR := Lib.hid hR2
  have hbw : Below w.heap.size w w2 := (hb0.trans (hb.mono (by omega))).trans (hb12.mono (by omega))
  have HBW := Lib.hid hbw
  clear hR2 hR0 hb2 hb12 hba hb hat hbw hb0
  go_wp2_with fail
  have b3 := block_set (block_set (block_set HR.out 0 (.int .i64 W)) 1 (.int .i64 H)) 2 (.string ⟨cells.toArray⟩)
  refine bodyPost_ret (v := .tuple #[.agg #[.int .i64 W, .int .i64 H, .string ⟨cells.toArray⟩], .bool ok]) ?_ rfl ?_
  · have r0 := cell_of_block b3 0
    have r1 := cell_of_block b3 1
    have r2 := cell_of_block b3 2
    simp at r0 r1 r2
    simp [results, Tryd.results55, go_sem, r0, r1, r2]
  · exact ⟨by rw [HWE.out, HHE.out, HCE.out, HOE.out]; rfl, HBW.out.trans (((Below.set 0 _).trans (Below.set 1 _)).trans (Below.set 2 _))⟩

set_option maxRecDepth 100000 in
set_option maxHeartbeats 800000 in
theorem iIsNotes_any (l : List UInt8) (w : World) (hM : HasMax w) (hl : l.length ≤ 1048576) :
    Calls Tryd.prog 24 #[.string ⟨l.toArray⟩] w fun e w' => e = .returned (.bool (gridM noteSign l)) ∧ Below w.heap.size w w' := by
  go_enter Tryd.func24, Tryd.ntmps24
  go_wp2_with fail
  refine (readNotes_any l _ hM hl).mono ?_
  rintro e w1 ⟨rfl, hb⟩
  unfold ntV
  have s1 := hb.size
  go_wp2_with fail
  go_ret
  exact ⟨rfl, hb.alloc s1 _⟩

theorem sIsNotes_any (l : List UInt8) (w : World) (hl : l.length ≤ 1048576) :
    Calls Tryd.prog 23 #[.string ⟨l.toArray⟩] w fun e w' => e = .returned (.bool (gridM noteSign l)) ∧ Below w.heap.size w w' := by
  go_enter Tryd.func23, Tryd.ntmps23
  go_wp2_with (go_at_call 54; refine (ruGood_any l _ hl).mono ?_; rintro e w1 ⟨rfl, hb⟩)
  go_ret
  exact ⟨rfl, hb⟩
end Go.Proofs.YthlbplmghjaeoaaDoor
