/- Notes: the rest of an open cell, by the program and by the model. -/
import Derived.Test.YthlbplmghjaeoacDoorGC6
import Derived.Outline
namespace Go.Proofs.YthlbplmghjaeoacDoor
open Go.RowKit

/-- Is there an open cell? Its rest. -/
def opB (cells : List UInt8) (k : Nat) : Bool := digSign (cells.getD k 0)
def restM (cells : List UInt8) (W k : Nat) : Int := (((cells.getD k 0).toNat - 48 : Nat) : Int) - ((nrS cells W k 42).length : Int)
theorem countAt_filt (cells : List UInt8) : ∀ l : List Nat, countAt cells l = (l.filter (signB cells 42)).length
  | [] => rfl
  | o :: r => by
    unfold countAt
    rw [List.filter_cons, countAt_filt cells r]
    by_cases h : cells.getD o 0 = 42
    · rw [if_pos h, if_pos (by rw [signB, h]; rfl)]; rfl
    · rw [if_neg h, if_neg (by rw [signB]; simpa using h)]
theorem numM_nrS (cells : List UInt8) (W c : Nat) : numM cells W c = (nrS cells W c 42).length := countAt_filt _ _
theorem dig_rest (n : Nat) (h : 48 ≤ n) (h2 : n ≤ 56) : IntKind.i64.wrap (IntKind.u8.wrap ((n : Int) - 48)) = ((n - 48 : Nat) : Int) := by
  have e1 : ((n : Int) - 48) = ((n - 48 : Nat) : Int) := by omega
  rw [e1]
  have e2 : IntKind.u8.wrap ((n - 48 : Nat) : Int) = ((n - 48 : Nat) : Int) := by
    simp [IntKind.wrap, IntKind.bits, IntKind.signed]
    omega
  rw [e2]
  exact IntWalk.i64_in _ ⟨by omega, by omega⟩

set_option maxRecDepth 100000 in
set_option maxHeartbeats 800000 in
theorem ruOpen_any (c : UInt8) (w : World) :
    Calls Tryd.prog 44 #[.int .u8 (c.toNat : Int)] w fun e w' => e = .returned (.bool (digSign c)) ∧ w = w' := by
  by_cases h1 : 48 ≤ c.toNat
  · by_cases h2 : c.toNat ≤ 56
    · have HB := Lib.hid (show digSign c = true by simp [digSign, h1, h2])
      go_enter Tryd.func44, Tryd.ntmps44
      go_wp2_with fail
      go_ret
      exact ⟨by rw [HB.out]; simp <;> omega, rfl⟩
    · have HB := Lib.hid (show digSign c = false by simp [digSign, h2])
      go_enter Tryd.func44, Tryd.ntmps44
      go_wp2_with fail
      go_ret
      exact ⟨by rw [HB.out]; simp <;> omega, rfl⟩
  · have HB := Lib.hid (show digSign c = false by simp [digSign, h1])
    go_enter Tryd.func44, Tryd.ntmps44
    go_wp2_with fail
    go_ret
    exact ⟨by rw [HB.out]; simp <;> omega, rfl⟩

set_option maxRecDepth 100000 in
set_option maxHeartbeats 1600000 in
theorem ruRest_any (l : List UInt8) (W H : Nat) (cells : List UInt8) (hB : Grd l W H cells) (c : Nat) (hc : c < cells.length) (hop : opB cells c = true) (w : World) (hl : l.length ≤ 1048576) :
    Calls Tryd.prog 48 #[.string ⟨l.toArray⟩, .int .i64 c] w fun e w' => e = .returned (.int .i64 (restM cells W c)) ∧ Below w.heap.size w w' := by
  have hbc := Lib.hid (fun w => boCells_any l w hl)
  have hNR := Lib.hid (fun w => ruNear_any l W H cells hB c hc 42 42 rfl w hl)
  have hle := nrS_le cells W c 42
  have h64 := hB.n64
  rw [hB.cs] at hbc
  have hgd : cells.getD c 0 = cells[c] := by simp [List.getD, hc]
  have hR : Hid (restM cells W c = ((cells[c].toNat - 48 : Nat) : Int) - ((nrS cells W c 42).length : Int)) := by rw [Hid, restM, hgd]
  rw [opB, hgd] at hop
  simp [digSign] at hop
  have hd := dig_rest cells[c].toNat hop.1 hop.2
  have hd2 : cells[c].toNat - 48 ≤ 8 := by omega
  clear hB hgd hop
  generalize nrS cells W c 42 = N at *
  have HWR := Lib.hid (IntWalk.i64_in (((cells[c].toNat - 48 : Nat) : Int) - (N.length : Int)) ⟨by omega, by omega⟩)
  go_enter Tryd.func48, Tryd.ntmps48
  go_wp2_with fail
  go_region_held3 (fun _ => True) (trivial)
    (first | (go_at_call 45; refine (hbc.out _).mono ?_; rintro e w2 ⟨rfl, rfl⟩) | (go_at_call 46; refine (hNR.out _).mono ?_; rintro e w3 ⟨a, cap, rfl, hown, hb3⟩))
  all_goals
    go_wp2_with fail
    go_ret
    exact ⟨by rw [hR.out]; first | rfl | (rw [HWR.out]; rfl), ofDrew hb3⟩

/-- An open cell as the program keeps it. -/
def ocV (cells : List UInt8) (W k : Nat) : Value := .agg #[.int .i64 k, .int .i64 (restM cells W k), .int .u64 (maskM (nrS cells W k 63) : Nat)]
def noC : Value := .agg #[.int .i64 0, .int .i64 0, .int .u64 0]
/-- Is there an open cell of that number? -/
def opC (cells : List UInt8) (c : Int) : Bool := inC cells.length c && opB cells c.toNat
theorem opC_case (cells : List UInt8) (c : Int) : (inC cells.length c = false ∧ opC cells c = false) ∨ ∃ k : Nat, c = k ∧ k < cells.length ∧ inC cells.length c = true ∧ opC cells c = opB cells k := by
  by_cases h : 0 ≤ c ∧ c < cells.length
  · have hb : inC cells.length c = true := by simp [inC]; omega
    exact .inr ⟨c.toNat, by omega, by omega, hb, by rw [opC, hb, Bool.true_and]⟩
  · have hb : inC cells.length c = false := by simp [inC]; omega
    exact .inl ⟨hb, by rw [opC, hb]; rfl⟩
theorem noC_ret {B : Nat} {w w' : World} {t0 t1 t2 t3 : Value} {r : List Value} (h : w'.heap[B]? = some (.cells #[.int .i64 0, .int .i64 0, .int .u64 0] 51 (0, 0))) {a : Act}
    (ha : a = { tmps := (t0 :: t1 :: t2 :: t3 :: .pointer (some ⟨B, 0, none⟩) :: .bool false :: r).toArray, defers := [] }) (hb : Below w.heap.size w w') :
    bodyPost Tryd.prog Tryd.f28 (fun e w' => e = .returned (.tuple #[noC, .bool false]) ∧ Below w.heap.size w w') .ret a w' := by
  subst ha
  have r0 := cell_of_block h 0
  have r1 := cell_of_block h 1
  have r2 := cell_of_block h 2
  have r3 := cell_of_block h 3
  simp at r0 r1 r2 r3
  exact bodyPost_ret (v := .tuple #[noC, .bool false]) (by simp [results, Tryd.results28, go_sem, r0, r1, r2, r3, noC]) rfl ⟨rfl, hb⟩
set_option maxRecDepth 100000 in
set_option maxHeartbeats 1600000 in
theorem openAt_no (W H : Nat) (a : Option Addr) (cells : List UInt8) (cap : Nat) (c : Int) (w : World) (hat : At w a (byts cells)) (_hn : cells.length ≤ 64) (ho : opC cells c = false) :
    Calls Tryd.prog 28 #[.agg #[.int .i64 W, .int .i64 H, .slice a cells.length cap, .bool false], .int .i64 c] w fun e w' => e = .returned (.tuple #[noC, .bool false]) ∧ Below w.heap.size w w' := by
  have hG0 : (w.alloc (.cells #[.int .i64 W, .int .i64 H, .slice a cells.length cap, .bool false] 46)).heap[w.heap.size]? = some (.cells #[.int .i64 W, .int .i64 H, .slice a cells.length cap, .bool false] 46 (0, 0)) := heap_alloc_new w _
  have hs0 : (w.alloc (.cells #[.int .i64 W, .int .i64 H, .slice a cells.length cap, .bool false] 46)).heap.size = w.heap.size + 1 := by simp
  have hb0 : Below w.heap.size w (w.alloc (.cells #[.int .i64 W, .int .i64 H, .slice a cells.length cap, .bool false] 46)) := (Below.refl _ _).alloc (Nat.le_refl _) _
  have hR1 := heap_alloc_new (w.alloc (.cells #[.int .i64 W, .int .i64 H, .slice a cells.length cap, .bool false] 46)) (.cells #[.int .i64 0, .int .i64 0, .int .u64 0] 51)
  have hG1 := (Below.heap_alloc (w.alloc (.cells #[.int .i64 W, .int .i64 H, .slice a cells.length cap, .bool false] 46)) (.cells #[.int .i64 0, .int .i64 0, .int .u64 0] 51) _ (by omega)).trans hG0
  have hb1 := hb0.alloc hb0.size (.cells #[.int .i64 0, .int .i64 0, .int .u64 0] 51)
  have hs1 : ((w.alloc (.cells #[.int .i64 W, .int .i64 H, .slice a cells.length cap, .bool false] 46)).alloc (.cells #[.int .i64 0, .int .i64 0, .int .u64 0] 51)).heap.size = w.heap.size + 2 := by simp
  rw [hs0] at hR1
  have hhc := fun w => hasCell_any (J := false) W H a cells.length cap c w
  rcases opC_case cells c with ⟨hi, _⟩ | ⟨k, rfl, hk, hi, hop⟩
  · rw [hi] at hhc
    clear hi ho
    go_enter Tryd.func28, Tryd.ntmps28
    go_wp2_with fail
    generalize (w.alloc (.cells #[.int .i64 W, .int .i64 H, .slice a cells.length cap, .bool false] 46)).alloc (.cells #[.int .i64 0, .int .i64 0, .int .u64 0] 51) = w1 at *
    refine (hhc _).mono ?_
    rintro e w2 ⟨rfl, hb2⟩
    have hR2 := (hb2.block _ (by omega)).trans hR1
    have r0 := cell_of_block hR2 0
    have r1 := cell_of_block hR2 1
    have r2 := cell_of_block hR2 2
    have r3 := cell_of_block hR2 3
    simp at r0 r1 r2 r3
    have q0 := frozen_of_block hR2 0
    have q1 := frozen_of_block hR2 1
    have q2 := frozen_of_block hR2 2
    have q3 := frozen_of_block hR2 3
    have HR := Lib.hid hR2
    have hRlt := block_lt hR2
    clear hR2 hG0 hG1 hR1 hhc
    go_wp2_with fail
    have b3 := block_set (block_set (block_set HR.out 0 (.int .i64 0)) 1 (.int .i64 0)) 2 (.int .u64 0)
    exact noC_ret b3 rfl ((hb1.trans (hb2.mono (by omega))).trans ((((Below.set 0 _).trans (Below.set 1 _)).trans (Below.set 2 _)).mono (by omega)))
  · rw [hi] at hhc
    rw [hop] at ho
    have hgd : cells.getD k 0 = cells[k] := by simp [List.getD, hk]
    rw [opB, hgd] at ho
    have hio := fun w => isOpenSign_any cells[k] w
    rw [ho] at hio
    clear hi ho hop hgd
    go_enter Tryd.func28, Tryd.ntmps28
    go_wp2_with fail
    have hat1 := hat.later rfl hb1
    generalize (w.alloc (.cells #[.int .i64 W, .int .i64 H, .slice a cells.length cap, .bool false] 46)).alloc (.cells #[.int .i64 0, .int .i64 0, .int .u64 0] 51) = w1 at *
    refine (hhc _).mono ?_
    rintro e w2 ⟨rfl, hb2⟩
    have hR2 := (hb2.block _ (by omega)).trans hR1
    have hG2 := (hb2.block _ (by omega)).trans hG1
    have g0 := cell_of_block hG2 0
    have g1 := cell_of_block hG2 1
    have g2 := cell_of_block hG2 2
    have g3 := cell_of_block hG2 3
    have r0 := cell_of_block hR2 0
    have r1 := cell_of_block hR2 1
    have r2 := cell_of_block hR2 2
    have r3 := cell_of_block hR2 3
    simp at r0 r1 r2 r3 g0 g1 g2 g3
    have q0 := frozen_of_block hR2 0
    have q1 := frozen_of_block hR2 1
    have q2 := frozen_of_block hR2 2
    have q3 := frozen_of_block hR2 3
    have HR := Lib.hid hR2
    have hRlt := block_lt hR2
    obtain ⟨b, off, he, hcell⟩ := byts_at (hat1.later rfl hb2) k hk
    subst he
    clear hR2 hG2 hG0 hG1 hR1 hhc hat hat1
    go_wp2_with fail
    refine (hio _).mono ?_
    rintro e w3 ⟨rfl, rfl⟩
    go_wp2_with fail
    have b3 := block_set (block_set (block_set HR.out 0 (.int .i64 0)) 1 (.int .i64 0)) 2 (.int .u64 0)
    exact noC_ret b3 rfl ((hb1.trans (hb2.mono (by omega))).trans ((((Below.set 0 _).trans (Below.set 1 _)).trans (Below.set 2 _)).mono (by omega)))

set_option maxRecDepth 100000 in
set_option maxHeartbeats 1600000 in
theorem openAt_yes (W H : Nat) (a : Option Addr) (cells : List UInt8) (cap : Nat) (k : Nat) (w : World) (hat : At w a (byts cells)) (hW : 1 ≤ W) (hn : cells.length ≤ 64) (hk : k < cells.length) (ho : opB cells k = true) :
    Calls Tryd.prog 28 #[.agg #[.int .i64 W, .int .i64 H, .slice a cells.length cap, .bool false], .int .i64 k] w fun e w' => e = .returned (.tuple #[ocV cells W k, .bool true]) ∧ Below w.heap.size w w' := by
  have hG0 : (w.alloc (.cells #[.int .i64 W, .int .i64 H, .slice a cells.length cap, .bool false] 46)).heap[w.heap.size]? = some (.cells #[.int .i64 W, .int .i64 H, .slice a cells.length cap, .bool false] 46 (0, 0)) := heap_alloc_new w _
  have hs0 : (w.alloc (.cells #[.int .i64 W, .int .i64 H, .slice a cells.length cap, .bool false] 46)).heap.size = w.heap.size + 1 := by simp
  have hb0 : Below w.heap.size w (w.alloc (.cells #[.int .i64 W, .int .i64 H, .slice a cells.length cap, .bool false] 46)) := (Below.refl _ _).alloc (Nat.le_refl _) _
  have hR1 := heap_alloc_new (w.alloc (.cells #[.int .i64 W, .int .i64 H, .slice a cells.length cap, .bool false] 46)) (.cells #[.int .i64 0, .int .i64 0, .int .u64 0] 51)
  have hG1 := (Below.heap_alloc (w.alloc (.cells #[.int .i64 W, .int .i64 H, .slice a cells.length cap, .bool false] 46)) (.cells #[.int .i64 0, .int .i64 0, .int .u64 0] 51) _ (by omega)).trans hG0
  have hb1 := hb0.alloc hb0.size (.cells #[.int .i64 0, .int .i64 0, .int .u64 0] 51)
  have hs1 : ((w.alloc (.cells #[.int .i64 W, .int .i64 H, .slice a cells.length cap, .bool false] 46)).alloc (.cells #[.int .i64 0, .int .i64 0, .int .u64 0] 51)).heap.size = w.heap.size + 2 := by simp
  rw [hs0] at hR1
  have hhc := fun w => hasCell_any (J := false) W H a cells.length cap k w
  rw [show inC cells.length (k : Int) = true by simp [inC]; omega] at hhc
  have hgd : cells.getD k 0 = cells[k] := by simp [List.getD, hk]
  have HR0 : Hid (restM cells W k = ((cells[k].toNat - 48 : Nat) : Int) - (numM cells W k : Int)) := by rw [Hid, restM, hgd, numM_nrS]
  rw [opB, hgd] at ho
  have hio := fun w => isOpenSign_any cells[k] w
  rw [ho] at hio
  simp [digSign] at ho
  have hd := dig_rest cells[k].toNat ho.1 ho.2
  have hd2 : cells[k].toNat - 48 ≤ 8 := by omega
  have hnl := numM_le cells W k
  have HNU := Lib.hid (fun w h => number_any W H a cells cap k w h hW hk hn)
  have HUN := Lib.hid (fun w h => unknownNear_any W H a cells cap k w h hW hk hn)
  have HDG := Lib.hid (fun w => digit_any 0 w (by omega))
  have hd0 : ((digB 0).toNat : Int) = 48 := by rw [digB_nat 0 (by omega)]; rfl
  rw [hd0] at HDG
  have HOC : Hid (ocV cells W k = .agg #[.int .i64 k, .int .i64 (restM cells W k), .int .u64 (maskM (nrS cells W k 63) : Nat)]) := rfl
  clear hgd ho hd0
  go_enter Tryd.func28, Tryd.ntmps28
  go_wp2_with fail
  have hat1 := hat.later rfl hb1
  generalize (w.alloc (.cells #[.int .i64 W, .int .i64 H, .slice a cells.length cap, .bool false] 46)).alloc (.cells #[.int .i64 0, .int .i64 0, .int .u64 0] 51) = w1 at *
  refine (hhc _).mono ?_
  rintro e w2 ⟨rfl, hb2⟩
  have hR2 := (hb2.block _ (by omega)).trans hR1
  have hG2 := (hb2.block _ (by omega)).trans hG1
  have g0 := cell_of_block hG2 0
  have g1 := cell_of_block hG2 1
  have g2 := cell_of_block hG2 2
  have g3 := cell_of_block hG2 3
  simp at g0 g1 g2 g3
  have hat2 := hat1.later rfl hb2
  obtain ⟨b, off, he, hcell⟩ := byts_at hat2 k hk
  subst he
  have hblt := World.block_lt_of_cell? w2 _ hcell
  have hglt := block_lt hG2
  have s2 := hb2.size
  have HR2 := Lib.hid hR2
  have HG2 := Lib.hid hG2
  have HAT2 := Lib.hid hat2
  clear hR2 hG2 hG0 hG1 hR1 hhc hat hat1 hat2
  go_wp2_with fail
  refine (hio _).mono ?_
  rintro e w3 ⟨rfl, rfl⟩
  clear hio
  go_wp2_with fail
  generalize nrS cells W k 63 = N63 at *
  generalize numM cells W k = nm at *
  have HWR := Lib.hid (IntWalk.i64_in (((cells[k].toNat - 48 : Nat) : Int) - (nm : Int)) ⟨by omega, by omega⟩)
  go_cut [6] (fun s6 wx => s6 = .int .i64 (((cells[k].toNat - 48 : Nat) : Int) - (nm : Int)) ∧ Below w2.heap.size w2 wx)
  case first =>
    go_region_held3 (fun w' => w'.cell? ⟨w.heap.size, 0, none⟩ = some (.int .i64 W) ∧ w'.cell? ⟨w.heap.size, 1, none⟩ = some (.int .i64 H) ∧ w'.cell? ⟨w.heap.size, 2, none⟩ = some (.slice (some ⟨b, off, none⟩) cells.length cap) ∧ w'.cell? ⟨w.heap.size, 3, none⟩ = some (.bool false) ∧ w'.cell? ⟨b, off + k, none⟩ = some (.int .u8 (cells[k].toNat : Int)))
      (first | exact ⟨g0, g1, g2, g3, hcell⟩ | exact ⟨kept1 (w := w2.drew) g0 hb4, kept1 (w := w2.drew) g1 hb4, kept1 (w := w2.drew) g2 hb4, kept1 (w := w2.drew) g3 hb4, kept1 (w := w2.drew) hcell hb4⟩)
      (first | (go_at_call 53; refine (HDG.out _).mono ?_; rintro e w5 ⟨rfl, rfl⟩) | (go_at_call 54; refine (HNU.out _ HAT2.out.drew).mono ?_; rintro e w4 ⟨rfl, hb4⟩))
    all_goals
      go_wp2_with fail
      go_meet
      exact ⟨by first | rfl | (rw [HWR.out]), ofDrew hb4⟩
  case rest =>
    obtain ⟨rfl, hbx⟩ := hcut
    have sx := hbx.size
    have hGx := (hbx.block _ hglt).trans HG2.out
    have hRx := (hbx.block _ (by omega)).trans HR2.out
    have g0 := cell_of_block hGx 0
    have g1 := cell_of_block hGx 1
    have g2 := cell_of_block hGx 2
    have g3 := cell_of_block hGx 3
    simp at g0 g1 g2 g3
    have hatx := HAT2.out.later rfl hbx
    have HRX := Lib.hid hRx
    have hRlt := block_lt hRx
    clear hGx hRx
    go_wp2_with fail
    refine (HUN.out _ hatx).mono ?_
    rintro e w5 ⟨rfl, hb5⟩
    have hR5 := (hb5.block _ hRlt).trans HRX.out
    have r0 := cell_of_block hR5 0
    have r1 := cell_of_block hR5 1
    have r2 := cell_of_block hR5 2
    have r3 := cell_of_block hR5 3
    simp at r0 r1 r2 r3
    have q0 := frozen_of_block hR5 0
    have q1 := frozen_of_block hR5 1
    have q2 := frozen_of_block hR5 2
    have q3 := frozen_of_block hR5 3
    have HR5 := Lib.hid hR5
    have hRlt5 := block_lt hR5
    have HBW := Lib.hid (((hb1.trans (hb2.mono (by omega))).trans (hbx.mono (by omega))).trans (hb5.mono (by omega)))
    clear hR5 hb5 hbx hb2 hb1 hatx
    go_wp2_with fail
    have b3 := block_set (block_set (block_set HR5.out 0 (.int .i64 k)) 1 (.int .i64 (((cells[k].toNat - 48 : Nat) : Int) - (nm : Int)))) 2 (.int .u64 (maskM N63 : Nat))
    refine bodyPost_ret (v := .tuple #[.agg #[.int .i64 k, .int .i64 (((cells[k].toNat - 48 : Nat) : Int) - (nm : Int)), .int .u64 (maskM N63 : Nat)], .bool true]) ?_ rfl ?_
    · have r0 := cell_of_block b3 0
      have r1 := cell_of_block b3 1
      have r2 := cell_of_block b3 2
      have r3 := cell_of_block b3 3
      simp at r0 r1 r2 r3
      simp [results, Tryd.results28, go_sem, r0, r1, r2, r3]
    · exact ⟨by rw [HOC.out, HR0.out], HBW.out.trans ((((Below.set 0 _).trans (Below.set 1 _)).trans (Below.set 2 _)).mono (by omega))⟩

/-- What RestAt hands back. -/
def raOK (l : List UInt8) (c : Int) : Bool := opC (grC noteSign l) c
def raM (l : List UInt8) (c : Int) : Int := if raOK l c = true then restM (grC noteSign l) (grW noteSign l) c.toNat else 0


end Go.Proofs.YthlbplmghjaeoacDoor
