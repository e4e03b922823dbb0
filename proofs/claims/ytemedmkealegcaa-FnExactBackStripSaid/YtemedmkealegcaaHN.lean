/- Strips told backwards. -/
import Derived.Test.YtemedmkealegcaaHB
import Derived.Sort.WalkB12
import Derived.Lib.SlicesMore
import Derived.Lib.ConvBytes
import Derived.Lib.UnsafeStr
import Derived.Lib.OwnBridge
import Derived.Deep.LoopGhost
import Derived.WalkKit
import Derived.Lib.Walk
namespace Go.Proofs.Ytemedmkealegcaa
open Go.RowKit

theorem back_step (l : List UInt8) {m : Nat} (h : m < l.length) : (l.drop m).reverse = (l.drop (m + 1)).reverse ++ [l[m]] := by
  rw [List.drop_eq_getElem_cons h, List.reverse_cons]
theorem one_text (l : List UInt8) {m : Nat} (h : m < l.length) : (⟨l.toArray⟩ : ByteArray).extract m (m + 1) = ⟨[l[m]].toArray⟩ := by
  apply ByteArray.ext
  rw [ByteArray.data_extract]
  apply Array.ext'
  rw [Array.toList_extract]
  show (l.drop m).take (m + 1 - m) = [l[m]]
  rw [List.drop_eq_getElem_cons h, show m + 1 - m = 1 by omega]
  rfl

/-- The strip backwards. -/
def bkM (l : List UInt8) : List UInt8 := if stM l = true then l.reverse else []
theorem bk_yes {l : List UInt8} (h : stM l = true) : bkM l = l.reverse := by rw [bkM, if_pos h]
theorem bk_no {l : List UInt8} (h : stM l = false) : bkM l = [] := by rw [bkM, h]; rfl

set_option maxRecDepth 100000 in
set_option maxHeartbeats 1600000 in
theorem stBack_any (l : List UInt8) (w : World) (hl : l.length ≤ 1048576) :
    Calls Try.prog 36 #[.string ⟨l.toArray⟩] w fun e w' => e = .returned (.string ⟨l.reverse.toArray⟩) ∧ w' = w := by
  go_enter Try.func36, Try.ntmps36
  go_wp2_with fail
  go_loop [3, 4] (fun o v => ∃ j : Nat, j ≤ l.length ∧ v = .int .i64 ((j : Int) - 1) ∧ o = .string ⟨((l.drop j).reverse).toArray⟩) (fun _ v => (intOf v + 1).toNat)
  case atStart => exact ⟨l.length, Nat.le_refl _, rfl, by rw [List.drop_length]; rfl⟩
  case round =>
    obtain ⟨j, hj, rfl, rfl⟩ := hrel
    cases j with
    | zero =>
      have hz : ((0 : Nat) : Int) - 1 = -1 := rfl
      rw [hz]
      go_wp2_with fail
      go_ret
      exact ⟨by simp, rfl⟩
    | succ m =>
      have hm : m < l.length := by omega
      have hz : ((m + 1 : Nat) : Int) - 1 = (m : Int) := by omega
      rw [hz]
      have hge : (0 : Int) ≤ (m : Int) := by omega
      have hsl : ∀ w, (Instr.slice 9 (.string ⟨l.toArray⟩) (some (.int .i64 (m : Int))) (some (.int .i64 ((m : Int) + 1))) none).run Try.prog w = .ok (.string ⟨[l[m]].toArray⟩) w := fun w => by
        have hs : (ByteArray.mk l.toArray).size = l.length := by simp [ByteArray.size]
        have h1 : (m : Int) ≤ (m : Int) + 1 := by omega
        have h2 : (m : Int) + 1 ≤ (ByteArray.mk l.toArray).size := by rw [hs]; omega
        have e1 : ((m : Int) + 1).toNat = m + 1 := by omega
        have e2 : (0 : Int) ≤ (m : Int) + 1 := by omega
        rw [run_slice_string _ _ _ _ _ _ _ Try.underlying9 hge h1 h2, e1, show ((m : Int)).toNat = m from rfl, one_text l hm]
      have hsl2 : ∀ w, (Instr.sliceAt 9 (.string ⟨l.toArray⟩) (some (.int .i64 (m : Int))) (some (.int .i64 ((m : Int) + 1))) none).run Try.prog w = .ok (.string ⟨[l[m]].toArray⟩) w := fun w => by rw [run_sliceAt_string (h := Try.underlying9)]; exact hsl w
      have HB := Lib.hid (back_step l hm)
      generalize l[m] = c at *
      go_wp2_with fail
      go_round
      case rel => exact ⟨m, by omega, by go_num, by rw [HB.out]⟩
      case measure => simp [intOf]

set_option maxRecDepth 100000 in
set_option maxHeartbeats 1600000 in
theorem sBackStrip_any (l : List UInt8) (w : World) (hl : l.length ≤ 1048576) :
    Calls Try.prog 14 #[.string ⟨l.toArray⟩] w fun e w' => e = .returned (.tuple #[.string ⟨(bkM l).toArray⟩, .bool (stM l)]) ∧ Below w.heap.size w w' := by
  have hgd := fun w => stGood_any l w hl
  cases hg : stM l with
  | false =>
    rw [hg] at hgd
    have HG := Lib.hid hgd
    rw [bk_no hg]
    clear hgd hg
    go_enter Try.func14, Try.ntmps14
    go_wp2_with fail
    refine (HG.out _).mono ?_
    rintro e w1 ⟨rfl, hb1⟩
    go_wp2_with fail
    go_ret2
    exact ⟨rfl, hb1⟩
  | true =>
    rw [hg] at hgd
    have HG := Lib.hid hgd
    rw [bk_yes hg]
    have HB := Lib.hid fun w => stBack_any l w hl
    clear hgd hg
    go_enter Try.func14, Try.ntmps14
    go_wp2_with fail
    refine (HG.out _).mono ?_
    rintro e w1 ⟨rfl, hb1⟩
    go_wp2_with fail
    refine (HB.out _).mono ?_
    rintro e w2 ⟨rfl, rfl⟩
    go_wp2_with fail
    go_ret2
    exact ⟨rfl, hb1⟩

/-- A byte as a cell. -/
abbrev enc8 : UInt8 → Value := fun c => .int .u8 (c.toNat : Int)
theorem ia8 (t : TypeId) (ht : Try.prog.underlying t = some (.slice 5)) (b off n c k : Nat) (hk : k < n) (w : World) : (Instr.indexAt t (.slice (some ⟨b, off, none⟩) n c) (.int .i64 (k : Int))).run Try.prog w = .ok (.pointer (some ⟨b, off + k, none⟩)) w := by
  simp [Instr.indexAt, run_underlying ht, Instr.sureAddr, asIntOf, Try.sizeOf5, hk, Addr.add_lit]
set_option maxRecDepth 1000000 in
set_option maxHeartbeats 1600000 in
/-- Bytes are turned round. -/
theorem turn_any (b off cap : Nat) (d : Array UInt8) (w : World) (hH : Go.Sort.Holds enc8 w b off d) (hsz : d.size ≤ 1048576) :
    Calls Try.prog 37 #[.slice (some ⟨b, off, none⟩) d.size cap] w fun e w' => e = .returned (.tuple #[]) ∧ ∃ n, w' = Go.Sort.putRow enc8 (Go.Sort.ahead w n) b off d.reverse := by
  have t47 := Try.underlying43
  have ta := Try.isAgg5
  have tz := Try.sizeOf5
  have hp0 := Lib.hid (Go.Sort.putRow_self enc8 w b off d hH).symm
  go_enter Try.func37, Try.ntmps37
  go_wp2_with fail
  go_loopg [2, 3] d.size (fun k s2 s3 wr => ∃ (i j : Nat) (z : Int) (x : Array UInt8) (n : Nat), s2 = .int .i64 i ∧ s3 = .int .i64 z ∧ ((i : Int) < z → z = j ∧ j < d.size) ∧ (¬ (i : Int) < z → ¬ i < j) ∧ j - i ≤ k ∧
    x.size = d.size ∧ wr = Go.Sort.putRow enc8 (Go.Sort.ahead w n) b off x ∧ Go.Sort.reverseLoop i j x = Go.Sort.reverseLoop 0 (d.size - 1) d)
  case atStart => exact ⟨0, d.size - 1, (d.size : Int) - 1, d, 0, rfl, rfl, fun h => ⟨by omega, by omega⟩, fun h => by omega, by omega, rfl, hp0.out, rfl⟩
  case round =>
    obtain ⟨i, j, z, x, n, rfl, rfl, h1, h2, hk, hds, hwr, heq⟩ := hrel
    by_cases hlt : (i : Int) < z
    · obtain ⟨rfl, hj⟩ := h1 hlt
      have hij : i < j := by omega
      have hHk : Go.Sort.Holds enc8 wr b off x := by rw [hwr]; exact Go.Sort.holds_putRow enc8 _ b off d x (Go.Sort.holds_ahead enc8 w n b off d hH) hds
      obtain ⟨ci, fi⟩ := hHk i (by omega)
      obtain ⟨cj, fj⟩ := hHk j (by omega)
      simp only [enc8] at ci cj
      have HW := Lib.hid hwr
      have hid : i < d.size := by omega
      clear hwr hHk hH h1 h2 hp0
      go_wp2_with fail
      go_region
      go_wp2_with fail
      go_roundg (j - 1 - (i + 1))
      case measure => omega
      case rel =>
        rw [Go.Sort.reverseLoop, if_pos hij] at heq
        exact ⟨i + 1, j - 1, (j : Int) - 1, Go.Sort.swp x i j, n + 1, by simp, rfl, fun h => ⟨by omega, by omega⟩, fun h => by omega, Nat.le_refl _, by rw [Go.Sort.size_swp]; exact hds,
          swap_world enc8 (by omega) (by omega) HW.out (by first | rfl | simp [enc8, getElem!_pos, show j < x.size by omega]) (by first | rfl | simp [enc8, getElem!_pos, show i < x.size by omega]), heq⟩
    · have hnot := h2 hlt
      go_wp2_with fail
      go_end0
      refine ⟨rfl, n, ?_⟩
      rw [Go.Sort.reverseLoop, if_neg hnot] at heq
      rw [← Lib.reverseLoop_reverse, ← heq]

theorem holds_bytes (w : World) (l : List UInt8) : Go.Sort.Holds enc8 (Lib.bytesWorld w 5 ⟨l.toArray⟩) w.heap.size 0 l.toArray := fun j hj => by
  have hs : (ByteArray.mk l.toArray).size = l.length := by simp [ByteArray.size]
  have hj' : j < l.length := by simpa using hj
  rw [Nat.zero_add]
  refine ⟨?_, ?_⟩
  · rw [Lib.bytesWorld_cell w _ _ j (by rw [hs]; exact hj')]
    simp [enc8, List.getD, hj']
  · have hnew := Lib.bytesWorld_at_new w 5 ⟨l.toArray⟩
    have hlt : j < (Lib.bytesCells w 5 ⟨l.toArray⟩).size := by
      simp [Lib.bytesCells]; omega
    generalize Lib.bytesCells w 5 ⟨l.toArray⟩ = cs at *
    simp [World.frozen?, hnew]
    omega
theorem below_bytes (w : World) (e : TypeId) (s : ByteArray) : Below w.heap.size w (Lib.bytesWorld w e s) :=
  Lib.below_freeze (((Below.refl _ w).drew).alloc (Nat.le_refl _) _) (p := ⟨w.heap.size, _, none⟩) (Nat.le_refl _) 1
set_option maxRecDepth 100000 in
set_option maxHeartbeats 1600000 in
theorem iBackStrip_any (l : List UInt8) (w : World) (hl : l.length ≤ 1048576) :
    Calls Try.prog 15 #[.string ⟨l.toArray⟩] w fun e w' => e = .returned (.tuple #[.string ⟨(bkM l).toArray⟩, .bool (stM l)]) ∧ Below w.heap.size w w' := by
  have hst := fun w => iIsStrip_any l w hl
  cases hg : stM l with
  | false =>
    rw [hg] at hst
    have HST := Lib.hid hst
    rw [bk_no hg]
    clear hst hg
    go_enter Try.func15, Try.ntmps15
    go_wp2_with fail
    refine (HST.out _).mono ?_
    rintro e w1 ⟨rfl, hb1⟩
    go_wp2_with fail
    go_ret2
    exact ⟨rfl, hb1⟩
  | true =>
    rw [hg] at hst
    have HST := Lib.hid hst
    rw [bk_yes hg]
    have hcv := fun w => Lib.run_convert_string_bytes (P := Try.prog) w 9 43 5 ⟨l.toArray⟩ Try.underlying9 Try.underlying43 Try.underlying5
    have hs : (ByteArray.mk l.toArray).size = l.toArray.size := by simp [ByteArray.size]
    rw [hs] at hcv
    clear hst hg
    go_enter Try.func15, Try.ntmps15
    go_wp2_with fail
    refine (HST.out _).mono ?_
    rintro e w1 ⟨rfl, hb1⟩
    have HTN := Lib.hid fun cap => turn_any w1.heap.size 0 cap l.toArray (Lib.bytesWorld w1 5 ⟨l.toArray⟩) (holds_bytes w1 l) (by simpa using hl)
    have hbb := below_bytes w1 5 ⟨l.toArray⟩
    have HH := Lib.hid (holds_bytes w1 l)
    go_wp2_with fail
    refine (HTN.out _).mono ?_
    rintro e w2 ⟨rfl, n, rfl⟩
    have hH2 := Go.Sort.holds_putRow enc8 (Go.Sort.ahead (Lib.bytesWorld w1 5 ⟨l.toArray⟩) n) w1.heap.size 0 l.toArray l.toArray.reverse (Go.Sort.holds_ahead enc8 _ n _ _ _ HH.out) (by simp)
    have hb3 : Below w.heap.size w (Go.Sort.putRow enc8 (Go.Sort.ahead (Lib.bytesWorld w1 5 ⟨l.toArray⟩) n) w1.heap.size 0 l.toArray.reverse) := hb1.trans (Lib.below_putRow (hbb.mono hb1.size) hb1.size)
    clear hbb hcv
    generalize Go.Sort.putRow enc8 (Go.Sort.ahead (Lib.bytesWorld w1 5 ⟨l.toArray⟩) n) w1.heap.size 0 l.toArray.reverse = w3 at *
    have hbk := fun cap => run_convert_bytes_back (P := Try.prog) w3 43 9 5 ⟨w1.heap.size, 0, none⟩ cap l.reverse Try.underlying43 Try.underlying5 Try.underlying9 (fun j hj => by
      have hj2 : j < l.toArray.reverse.size := by simpa using hj
      have h2 := (hH2 j hj2).1
      rw [Addr.add_lit]
      rw [h2, getElem!_pos l.toArray.reverse j hj2]
      simp [enc8])
    rw [List.length_reverse] at hbk
    clear hH2
    go_wp2_with fail
    go_ret2
    exact ⟨rfl, hb3⟩
end Go.Proofs.Ytemedmkealegcaa
