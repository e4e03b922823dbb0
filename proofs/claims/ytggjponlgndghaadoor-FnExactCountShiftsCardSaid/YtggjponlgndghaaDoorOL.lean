/- Joined boards: ShiftsKept and CountShifts, by the model and by the program. -/
import Derived.Test.YtggjponlgndghaaDoorOK
import Derived.Test.YtggjponlgndghaaDoorO6
namespace Go.Proofs.YtggjponlgndghaaDoor
open Go.RowKit

theorem ksOf_no {l : List UInt8} (h : joB l = false) : ksOf l = [] := by rw [ksOf, h]; rfl

set_option maxRecDepth 100000 in
set_option maxHeartbeats 400000 in
theorem sShiftsKept_any (l : List UInt8) (w : World) (hl : l.length ≤ 1048576) :
    Calls Tryd.prog 28 #[.string ⟨l.toArray⟩] w fun e w' => ∃ a cap us, e = .returned (.tuple #[.slice a (ksOf l).length cap, .bool (joB l)]) ∧ us.length = (ksOf l).length ∧
      Fam w' w.heap.size ((.slice a (ksOf l).length cap, 23, us) :: rowsF us (ksOf l)) ∧ Below w.heap.size w w' := by
  have HG := Lib.hid (fun w => joGood_any l w hl)
  cases hj : joB l with
  | false =>
    rw [hj] at HG
    have hN := Lib.hid (ksOf_no hj)
    clear hj
    go_enter Tryd.func28, Tryd.ntmps28
    go_wp2_with fail
    refine (HG.out _).mono ?_
    rintro e w1 ⟨rfl, hb⟩
    go_wp2_with fail
    go_ret2
    exact ⟨none, 0, [], by rw [hN.out]; rfl, by rw [hN.out]; rfl, by rw [hN.out]; exact (Fam.empty _ _).nil, hb⟩
  | true =>
    have HK := Lib.hid (fun w => joKept_any l w hl hj)
    rw [hj] at HG
    clear hj
    generalize ksOf l = K at *
    go_enter Tryd.func28, Tryd.ntmps28
    go_wp2_with fail
    refine (HG.out _).mono ?_
    rintro e w1 ⟨rfl, hb⟩
    go_wp2_with fail
    refine (HK.out _).mono ?_
    rintro e w2 ⟨a, cap, us, rfl, hus, hF, hb2⟩
    go_wp2_with fail
    go_ret2
    exact ⟨a, cap, us, rfl, hus, hF.mono hb.size, hb.trans (hb2.mono hb.size)⟩

set_option maxRecDepth 100000 in
set_option maxHeartbeats 400000 in
/-- No shift keeps what is no board: there are no cells. -/
theorem shiftsKept_none (J : Bool) (a : Option Addr) (cap : Nat) (w : World) :
    Calls Tryd.prog 52 #[.agg #[.int .i64 ((0 : Nat) : Int), .int .i64 ((0 : Nat) : Int), .slice a (List.length ([] : List UInt8)) cap, .bool J]] w fun e w' => e = .returned (.slice none 0 0) ∧ Below w.heap.size w w' := by
  have hb0 := fun o => (Below.refl _ w).alloc (Nat.le_refl _) o
  go_enter Tryd.func52, Tryd.ntmps52
  go_wp2_with fail
  generalize hw0 : w.alloc _ = w0
  have hb : Below w.heap.size w w0 := by rw [← hw0]; exact hb0 _
  clear hw0 hb0
  go_loopw [3, 8] (fun v i wr => i = .int .i64 0 ∧ v = .slice none 0 0 ∧ wr = w0) (fun _ _ _ => 0)
  case atStart => exact ⟨rfl, rfl, rfl⟩
  case round =>
    obtain ⟨rfl, rfl, rfl⟩ := hrel
    go_wp2_with fail
    go_ret
    exact ⟨rfl, hb⟩
set_option maxRecDepth 100000 in
set_option maxHeartbeats 800000 in
theorem iShiftsKept_any (l : List UInt8) (w : World) (hM : HasMax w) (hl : l.length ≤ 1048576) :
    Calls Tryd.prog 29 #[.string ⟨l.toArray⟩] w fun e w' => ∃ a cap us, e = .returned (.tuple #[.slice a (ksOf l).length cap, .bool (joB l)]) ∧ us.length = (ksOf l).length ∧
      Fam w' w.heap.size ((.slice a (ksOf l).length cap, 23, us) :: rowsF us (ksOf l)) ∧ Below w.heap.size w w' := by
  have HRJ := Lib.hid (readJoined_any l w hM hl)
  cases hj : joB l with
  | false =>
    obtain ⟨e1, e2, e3⟩ := jC_no hj
    rw [hj, e1, e2, e3] at HRJ
    have hN := Lib.hid (ksOf_no hj)
    have HS := Lib.hid (fun a cap w => shiftsKept_none false a cap w)
    clear hj e1 e2 e3
    go_enter Tryd.func29, Tryd.ntmps29
    go_wp2_with fail
    refine HRJ.out.mono ?_
    rintro e w1 ⟨a, cap, rfl, hown, hb⟩
    have hb0 := fun o => hb.alloc hb.size o
    go_wp2_with fail
    refine (HS.out a cap _).mono ?_
    rintro e w2 ⟨rfl, hb2⟩
    go_wp2_with fail
    go_ret2
    exact ⟨none, 0, [], by rw [hN.out]; rfl, by rw [hN.out]; rfl, by rw [hN.out]; exact (Fam.empty _ _).nil, (hb0 _).trans (hb2.mono (by have := hb.size; simp; omega))⟩
  | true =>
    have hB := Brd.g (joB_good hj)
    obtain ⟨ec, e1, e2⟩ := jC_yes hj
    rw [hj, ec, e1, e2] at HRJ
    have HK := Lib.hid (fun a cap w' h h' => shiftsKept_any (gW l) (gH l) true a (gCells l) cap w' h h' hB.len ⟨hB.w1, hB.w8⟩ ⟨hB.h1, hB.h8⟩)
    rw [show kpM (gW l) (gH l) (gCells l) = ksOf l by rw [ksOf, if_pos hj]] at HK
    clear hj hB ec e1 e2
    generalize ksOf l = K at *
    go_enter Tryd.func29, Tryd.ntmps29
    go_wp2_with fail
    refine HRJ.out.mono ?_
    rintro e w1 ⟨a, cap, rfl, hown, hb⟩
    have hcap := hown.cap
    have hat : ∀ o, At (w1.alloc o) a (byts (gCells l)) := fun o => (hown.at).later rfl ((Below.refl _ _).alloc (Nat.le_refl _) _)
    have hb0 := fun o => hb.alloc hb.size o
    clear hown
    go_wp2_with fail
    refine (HK.out a cap _ (hat _) hcap).mono ?_
    rintro e w2 ⟨a2, c2, us, rfl, hus, hF, hb2⟩
    go_wp2_with fail
    go_ret2
    exact ⟨a2, c2, us, rfl, hus, hF.mono (by have := hb.size; simp; omega), (hb0 _).trans (hb2.mono (by have := hb.size; simp; omega))⟩

/-- How many different shifted boards there are. -/
def csN (l : List UInt8) : Nat := if joB l = true then (gCells l).length / (ksOf l).length else 0

set_option maxRecDepth 100000 in
set_option maxHeartbeats 400000 in
theorem sCountShifts_any (l : List UInt8) (w : World) (hl : l.length ≤ 1048576) :
    Calls Tryd.prog 26 #[.string ⟨l.toArray⟩] w fun e w' => e = .returned (.tuple #[.int .i64 (csN l), .bool (joB l)]) ∧ Below w.heap.size w w' := by
  have HG := Lib.hid (fun w => joGood_any l w hl)
  cases hj : joB l with
  | false =>
    rw [hj] at HG
    have hN : Hid (csN l = 0) := by rw [Hid, csN, hj]; rfl
    clear hj
    go_enter Tryd.func26, Tryd.ntmps26
    go_wp2_with fail
    refine (HG.out _).mono ?_
    rintro e w1 ⟨rfl, hb⟩
    go_wp2_with fail
    go_ret2
    exact ⟨by rw [hN.out]; rfl, hb⟩
  | true =>
    have hB := Brd.g (joB_good hj)
    have HC := Lib.hid (fun w => boCells_any l w hl)
    rw [hB.cs] at HC
    have HK := Lib.hid (fun w => joKept_any l w hl hj)
    have hp : 1 ≤ (ksOf l).length := by rw [ksOf, if_pos hj]; exact kpM_pos hB.w1 hB.h1
    have h64 := hB.n64
    have hN : Hid (csN l = (gCells l).length / (ksOf l).length) := by rw [Hid, csN, if_pos hj]
    have hk64 := ksOf_len l
    rw [hj] at HG
    clear hj hB
    generalize ksOf l = K at *
    generalize gCells l = cells at *
    have t2 : (cells.length : Int).tdiv (K.length : Int) = ((cells.length / K.length : Nat) : Int) := by rw [Int.ofNat_tdiv]
    have hle : cells.length / K.length ≤ 64 := Nat.le_trans (Nat.div_le_self _ _) h64
    rw [← hN.out] at t2 hle
    generalize csN l = cs at *
    have r3 : IntKind.i64.wrap (cs : Int) = (cs : Int) := IntWalk.i64_in _ ⟨by omega, by omega⟩
    have hz : ¬ K.length = 0 := by omega
    have hz2 : ((K.length : Int) == 0) = false := by rw [beq_eq_false_iff_ne]; omega
    go_enter Tryd.func26, Tryd.ntmps26
    go_wp2_with fail
    refine (HG.out _).mono ?_
    rintro e w1 ⟨rfl, hb⟩
    go_wp2_with fail
    refine (HC.out _).mono ?_
    rintro e w1' ⟨rfl, rfl⟩
    go_wp2_with fail
    refine (HK.out _).mono ?_
    rintro e w2 ⟨a, cap, us, rfl, hus, hF, hb2⟩
    go_wp2_with fail
    go_ret2
    exact ⟨rfl, hb.trans (hb2.mono hb.size)⟩

set_option maxRecDepth 100000 in
set_option maxHeartbeats 800000 in
theorem iCountShifts_any (l : List UInt8) (w : World) (hM : HasMax w) (hl : l.length ≤ 1048576) :
    Calls Tryd.prog 27 #[.string ⟨l.toArray⟩] w fun e w' => e = .returned (.tuple #[.int .i64 (csN l), .bool (joB l)]) ∧ Below w.heap.size w w' := by
  have HRJ := Lib.hid (readJoined_any l w hM hl)
  cases hj : joB l with
  | false =>
    rw [hj] at HRJ
    have hN : Hid (csN l = 0) := by rw [Hid, csN, hj]; rfl
    clear hj
    go_enter Tryd.func27, Tryd.ntmps27
    go_wp2_with fail
    refine HRJ.out.mono ?_
    rintro e w1 ⟨a, cap, rfl, hown, hb⟩
    go_wp2_with fail
    go_ret2
    exact ⟨by rw [hN.out]; rfl, hb.alloc hb.size _⟩
  | true =>
    have hB := Brd.g (joB_good hj)
    obtain ⟨ec, e1, e2⟩ := jC_yes hj
    rw [hj, ec, e1, e2] at HRJ
    have HK := Lib.hid (fun a cap w' h h' => shiftsKept_any (gW l) (gH l) true a (gCells l) cap w' h h' hB.len ⟨hB.w1, hB.w8⟩ ⟨hB.h1, hB.h8⟩)
    rw [show kpM (gW l) (gH l) (gCells l) = ksOf l by rw [ksOf, if_pos hj]] at HK
    have hp : 1 ≤ (ksOf l).length := by rw [ksOf, if_pos hj]; exact kpM_pos hB.w1 hB.h1
    have h64 := hB.n64
    have hN : Hid (csN l = (gCells l).length / (ksOf l).length) := by rw [Hid, csN, if_pos hj]
    have hk64 := ksOf_len l
    clear hj hB ec e1 e2
    generalize ksOf l = K at *
    generalize gCells l = cells at *
    have t2 : (cells.length : Int).tdiv (K.length : Int) = ((cells.length / K.length : Nat) : Int) := by rw [Int.ofNat_tdiv]
    have hle : cells.length / K.length ≤ 64 := Nat.le_trans (Nat.div_le_self _ _) h64
    rw [← hN.out] at t2 hle
    generalize csN l = cs at *
    have r3 : IntKind.i64.wrap (cs : Int) = (cs : Int) := IntWalk.i64_in _ ⟨by omega, by omega⟩
    have hz : ¬ K.length = 0 := by omega
    have hz2 : ((K.length : Int) == 0) = false := by rw [beq_eq_false_iff_ne]; omega
    go_enter Tryd.func27, Tryd.ntmps27
    go_wp2_with fail
    refine HRJ.out.mono ?_
    rintro e w1 ⟨a, cap, rfl, hown, hb⟩
    have hcap := hown.cap
    have hat : ∀ o, At (w1.alloc o) a (byts cells) := fun o => (hown.at).later rfl ((Below.refl _ _).alloc (Nat.le_refl _) _)
    have hb0 := fun o => hb.alloc hb.size o
    have hs1 := hb.size
    clear hown
    have hG0 := heap_alloc_new w1 (.cells #[.int .i64 (gW l), .int .i64 (gH l), .slice a cells.length cap, .bool true] 43)
    have hlt0 : w1.heap.size < (w1.alloc (.cells #[.int .i64 (gW l), .int .i64 (gH l), .slice a cells.length cap, .bool true] 43)).heap.size := by simp
    have hbw := hb0 (.cells #[.int .i64 (gW l), .int .i64 (gH l), .slice a cells.length cap, .bool true] 43)
    have hatw := hat (.cells #[.int .i64 (gW l), .int .i64 (gH l), .slice a cells.length cap, .bool true] 43)
    clear hat hb0
    go_wp2_with fail
    generalize w1.alloc (.cells #[.int .i64 (gW l), .int .i64 (gH l), .slice a cells.length cap, .bool true] 43) = wg at *
    have hf0 := cell_of_block hG0 0
    have hf1 := cell_of_block hG0 1
    have hf2 := cell_of_block hG0 2
    have hf3 := cell_of_block hG0 3
    simp at hf0 hf1 hf2 hf3
    have hdr : Below wg.heap.size wg wg.drew := ⟨rfl, rfl, rfl, Nat.le_refl _, fun _ _ => rfl⟩
    have HDR := Lib.hid hdr
    have HA := Lib.hid (hatw.later rfl hdr)
    have HG0 := Lib.hid hG0
    clear hdr hatw hG0
    go_region_law (first
      | (go_simp; go_at_call 52; refine (HK.out a cap _ HA.out hcap).mono ?_; rintro e w2 ⟨a2, c2, us, rfl, hus, hF, hb2⟩;
         have hg2 := (((HDR.out.trans (hb2.mono HDR.out.size)).block w1.heap.size hlt0).trans HG0.out); have hx2 := cell_of_block hg2 2; simp at hx2; clear hg2))
    all_goals
      have hb3 := hbw.trans ((HDR.out.trans (hb2.mono HDR.out.size)).mono hbw.size)
      clear hb2 hF hx2 hf0 hf1 hf2 hf3
      go_wp2_with fail
      go_ret2
      exact ⟨rfl, hb3⟩
end Go.Proofs.YtggjponlgndghaaDoor
