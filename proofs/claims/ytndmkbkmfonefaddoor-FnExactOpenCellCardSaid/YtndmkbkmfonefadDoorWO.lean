/- Views: a hidden cell opened, by the model. -/
import Derived.Test.YtndmkbkmfonefadDoorWN
import Derived.Outline
namespace Go.Proofs.YtndmkbkmfonefadDoor
open Go.RowKit

def ocOK (l m : List UInt8) (c : Int) : Bool := dfM l m && (inC (vC l).length c && (unsB (vC l) c.toNat && !(mineB (gCells m) c.toNat)))
def ocM (l m : List UInt8) (c : Int) : List UInt8 := if ocOK l m c = true then textM ((vC l).set c.toNat (digB (numM (gCells m) (vW l) c.toNat))) (vW l) (vH l) else []
theorem oc_no {l m : List UInt8} {c : Int} (h : ocOK l m c = false) : ocM l m c = [] := by rw [ocM, h]; rfl
theorem df_yes {l m : List UInt8} (h : dfM l m = true) : viewM l = true ∧ boGoodM m = true ∧ vW l = gW m ∧ vH l = gH m := by
  rw [dfM, Bool.and_eq_true, Bool.and_eq_true, Bool.and_eq_true, dfOK, Bool.and_eq_true, beq_iff_eq, beq_iff_eq] at h
  exact ⟨h.1.1, h.1.2, h.2.1.1, h.2.1.2⟩

set_option maxRecDepth 100000 in
set_option maxHeartbeats 800000 in
theorem viPut_any (l m : List UInt8) (W H : Nat) (vc bc : List UInt8) (k : Nat) (w : World) (hl : l.length ≤ 1048576) (hm : m.length ≤ 1048576) (hG : Grd l W H vc) (hB : Grd m W H bc) (hk : k < bc.length) (hn : numM bc W k ≤ 9) :
    Calls Tryd.prog 64 #[.string ⟨l.toArray⟩, .string ⟨m.toArray⟩, .int .i64 k] w fun e w' => e = .returned (.string ⟨(textM (vc.set k (digB (numM bc W k))) W H).toArray⟩) ∧ Below w.heap.size w w' := by
  have hput := fun s w => boPut_any l W H vc k s w hl hG (by rw [hG.len, ← hB.len]; exact hk)
  have hnm := fun w => boNumber_any W H bc k w ⟨hB.w1, hB.w8⟩ hB.h8 hB.len hk
  have hsz := fun w => boSize_any m w hm
  have hcl := fun w => boCells_any m w hm
  rw [hB.size] at hsz
  rw [hB.cs] at hcl
  have HS := Lib.hid hsz
  clear hG hB hsz
  go_enter Tryd.func64, Tryd.ntmps64
  go_wp2_with fail
  refine (HS.out _).mono ?_
  rintro e w1 ⟨rfl, hb1⟩
  go_wp2_with fail
  refine (hcl _).mono ?_
  rintro e w2 ⟨rfl, rfl⟩
  go_wp2_with fail
  refine (hnm _).mono ?_
  rintro e w3 ⟨rfl, hb3⟩
  go_wp2_with fail
  refine (l1Num_any _ _ hn).mono ?_
  rintro e w4 ⟨rfl, hb4⟩
  go_wp2_with fail
  refine (hput _ _).mono ?_
  rintro e w5 ⟨rfl, hb5⟩
  have s1 := hb1.size
  have s3 := hb3.size
  have s4 := hb4.size
  go_wp2_with fail
  go_ret
  exact ⟨rfl, ((hb1.trans (hb3.mono s1)).trans (hb4.mono (by omega))).trans (hb5.mono (by omega))⟩

set_option maxRecDepth 100000 in
set_option maxHeartbeats 1600000 in
theorem sOpenCell_any (l m : List UInt8) (c : Int) (w : World) (hl : l.length ≤ 1048576) (hm : m.length ≤ 1048576) :
    Calls Tryd.prog 33 #[.string ⟨l.toArray⟩, .string ⟨m.toArray⟩, .int .i64 c] w fun e w' => e = .returned (.tuple #[.string ⟨(ocM l m c).toArray⟩, .bool (ocOK l m c)]) ∧ Below w.heap.size w w' := by
  have hdf := fun w => sDoesFitView_any l m w hl hm
  have hvh := fun w => viHidden_any l c w hl
  cases hf : dfM l m with
  | false =>
    have ho : ocOK l m c = false := by rw [ocOK, hf]; rfl
    have HO := Lib.hid ho
    have HM := Lib.hid (oc_no ho)
    rw [hf] at hdf
    clear ho hf
    cases hok : dfOK l m with
    | false =>
      rw [hok] at hdf
      clear hok
      go_enter Tryd.func33, Tryd.ntmps33
      go_wp2_with fail
      refine (hdf _).mono ?_
      rintro e w1 ⟨rfl, hb1⟩
      go_wp2_with fail
      go_ret2
      exact ⟨by rw [HO.out, HM.out]; rfl, hb1⟩
    | true =>
      rw [hok] at hdf
      clear hok
      go_enter Tryd.func33, Tryd.ntmps33
      go_wp2_with fail
      refine (hdf _).mono ?_
      rintro e w1 ⟨rfl, hb1⟩
      go_wp2_with fail
      go_ret2
      exact ⟨by rw [HO.out, HM.out]; rfl, hb1⟩
  | true =>
    obtain ⟨hv, hb, e1, e2⟩ := df_yes hf
    have hok : dfOK l m = true := by rw [dfOK, hv, hb]; rfl
    obtain ⟨hG, hsg⟩ := Grd.view hv
    have hB := Grd.board hb
    rw [← e1, ← e2] at hB
    rw [hf, hok] at hdf
    rw [hG.cs] at hvh
    have hcl := fun w => boCells_any m w hm
    rw [hB.cs] at hcl
    have hlen : (gCells m).length = (vC l).length := by rw [hB.len, hG.len]
    have HOC : Hid (ocOK l m c = (inC (vC l).length c && (unsB (vC l) c.toNat && !(mineB (gCells m) c.toNat)))) := by rw [Hid, ocOK, hf]; rfl
    cases hh : (inC (vC l).length c && unsB (vC l) c.toNat) with
    | false =>
      have ho : ocOK l m c = false := by rw [HOC.out, ← Bool.and_assoc, hh]; rfl
      have HO := Lib.hid ho
      have HM := Lib.hid (oc_no ho)
      rw [hh] at hvh
      clear ho hh hf hok hv hb hG hB hsg e1 e2 hlen hcl
      go_enter Tryd.func33, Tryd.ntmps33
      go_wp2_with fail
      refine (hdf _).mono ?_
      rintro e w1 ⟨rfl, hb1⟩
      go_wp2_with fail
      refine (hvh _).mono ?_
      rintro e w2 ⟨rfl, rfl⟩
      go_wp2_with fail
      go_ret2
      exact ⟨by rw [HO.out, HM.out]; rfl, hb1⟩
    | true =>
      rw [hh] at hvh
      have hin : 0 ≤ c ∧ c < (vC l).length := by rw [Bool.and_eq_true] at hh; simpa [inC] using hh.1
      obtain ⟨k, rfl⟩ : ∃ k : Nat, c = k := ⟨c.toNat, by omega⟩
      have hk : k < (gCells m).length := by omega
      rw [← Bool.and_assoc, hh, Bool.true_and, Int.toNat_natCast] at HOC
      have hmk : mineB (gCells m) k = ((gCells m)[k] == 42) := by simp [mineB, List.getD, hk]
      have q := byte_beq (gCells m)[k] 42 (by omega)
      cases hmi : mineB (gCells m) k with
      | true =>
        have ho : ocOK l m k = false := by rw [HOC.out, hmi]; rfl
        have HO := Lib.hid ho
        have HM := Lib.hid (oc_no ho)
        have d : (((gCells m)[k].toNat : Int) == 42) = true := by rw [show ((42 : Int)) = ((42 : Nat) : Int) from rfl, q, ← hmi, hmk]; rfl
        clear ho hh hf hok hv hb hG hB hsg e1 e2 hin hlen hmk q hmi HOC
        generalize gCells m = bc at *
        go_enter Tryd.func33, Tryd.ntmps33
        go_wp2_with fail
        refine (hdf _).mono ?_
        rintro e w1 ⟨rfl, hb1⟩
        go_wp2_with fail
        refine (hvh _).mono ?_
        rintro e w2 ⟨rfl, rfl⟩
        go_wp2_with fail
        refine (hcl _).mono ?_
        rintro e w3 ⟨rfl, rfl⟩
        go_wp2_with fail
        go_ret2
        exact ⟨by rw [HO.out, HM.out]; rfl, hb1⟩
      | false =>
        have ho : ocOK l m k = true := by rw [HOC.out, hmi]; rfl
        have HO := Lib.hid ho
        have HM : Hid (ocM l m k = textM ((vC l).set k (digB (numM (gCells m) (vW l) k))) (vW l) (vH l)) := by rw [Hid, ocM, ho]; rfl
        have d : (((gCells m)[k].toNat : Int) == 42) = false := by rw [show ((42 : Int)) = ((42 : Nat) : Int) from rfl, q, ← hmi, hmk]; rfl
        have hput := fun w => viPut_any l m (vW l) (vH l) (vC l) (gCells m) k w hl hm hG hB hk (by have := numM_eight (gCells m) (vW l) (vH l) k hG.w8 hG.h8 hB.len hk; omega)
        clear ho hh hf hok hv hb hG hB hsg e1 e2 hin hlen hmk q hmi HOC
        generalize textM ((vC l).set k (digB (numM (gCells m) (vW l) k))) (vW l) (vH l) = tx at *
        generalize gCells m = bc at *
        go_enter Tryd.func33, Tryd.ntmps33
        go_wp2_with fail
        refine (hdf _).mono ?_
        rintro e w1 ⟨rfl, hb1⟩
        go_wp2_with fail
        refine (hvh _).mono ?_
        rintro e w2 ⟨rfl, rfl⟩
        go_wp2_with fail
        refine (hcl _).mono ?_
        rintro e w3 ⟨rfl, rfl⟩
        go_wp2_with fail
        refine (hput _).mono ?_
        rintro e w4 ⟨rfl, hb4⟩
        go_wp2_with fail
        go_ret2
        exact ⟨by rw [HO.out, HM.out]; rfl, hb1.trans (hb4.mono hb1.size)⟩
end Go.Proofs.YtndmkbkmfonefadDoor
