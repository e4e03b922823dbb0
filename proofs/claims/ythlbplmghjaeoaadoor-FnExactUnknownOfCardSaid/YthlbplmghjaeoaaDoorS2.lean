/- Walks: the model's size of a board and what is none. -/
import Derived.Test.YthlbplmghjaeoaaDoorS1
namespace Go.Proofs.YthlbplmghjaeoaaDoor
open Go.RowKit

def allLen (n : Nat) : List (List UInt8) → Bool
  | [] => true
  | r :: rs => if r.length = n then allLen n rs else false
def headLen (rows : List (List UInt8)) : Nat := (rows.headD []).length
def szOf (rows : List (List UInt8)) : Nat × Nat :=
  if allLen (headLen rows) rows = true ∧ rows.length ≤ 8 ∧ 1 ≤ headLen rows ∧ headLen rows ≤ 8 then (headLen rows, rows.length) else (0, 0)
def boSizeM (l : List UInt8) : Nat × Nat := szOf (splitB 47 l)

set_option maxRecDepth 100000 in
set_option maxHeartbeats 800000 in
theorem boSize_any (l : List UInt8) (w : World) (hl : l.length ≤ 1048576) :
    Calls Tryd.prog 31 #[.string ⟨l.toArray⟩] w fun e w' => e = .returned (.tuple #[.int .i64 (boSizeM l).1, .int .i64 (boSizeM l).2]) ∧ Below w.heap.size w w' := by
  go_enter Tryd.func31, Tryd.ntmps31
  go_wp2_with fail
  refine (l1Split_any l 47 _ rfl _ hl).mono ?_
  rintro e w1 ⟨a, cap, rfl, hown, hb⟩
  have hpos := splitB_pos 47 l
  have hle := splitB_le 47 l
  have hpart := splitB_part 47 l
  have HM : Hid (boSizeM l = szOf (splitB 47 l)) := rfl
  generalize splitB 47 l = rows at *
  have hat := hown.at
  obtain ⟨b0, off0, rfl, hc0⟩ := txts_at hat 0 hpos
  simp only [Nat.add_zero] at hc0
  have hh : Hid (headLen rows = rows[0].length) := by cases rows with | nil => simp at hpos | cons x r => simp [Hid, headLen]
  have hp0 := hpart 0 hpos
  have hb0 := hb
  have hw1 : w.heap.size ≤ w1.heap.size := hb.size
  go_wp2_with fail
  go_loop [11] (fun i => ∃ k : Nat, k ≤ rows.length ∧ i = .int .i64 k ∧ Hid (allLen rows[0].length rows = allLen rows[0].length (rows.drop k))) (fun i => rows.length - (intOf i).toNat)
  case atStart => exact ⟨0, Nat.zero_le _, rfl, rfl⟩
  case round =>
    obtain ⟨k, hk, rfl, hno⟩ := hrel
    by_cases hlt : k < rows.length
    · obtain ⟨b1, off1, he1, hc1⟩ := txts_at hat k hlt
      simp only [Option.some.injEq, Addr.mk.injEq, and_true] at he1
      obtain ⟨rfl, rfl⟩ := he1
      have hpk := hpart k hlt
      have Ht := Lib.hid (List.drop_eq_getElem_cons hlt)
      by_cases hq : rows[k].length = rows[0].length
      · have hd : ((rows[k].length : Int) != (rows[0].length : Int)) = false := by simp [hq]
        have Hq := Lib.hid hq
        clear hq
        go_wp2_with fail
        go_round
        case rel => exact ⟨k + 1, by omega, by go_num, by rw [Hid, hno.out, Ht.out, allLen, if_pos Hq.out]⟩
        case measure => simp [intOf]; omega
      · have hd : ((rows[k].length : Int) != (rows[0].length : Int)) = true := by simp; omega
        go_wp2_with fail
        go_ret2
        have hall : allLen rows[0].length rows = false := by rw [hno.out, Ht.out, allLen, if_neg hq]
        exact ⟨by rw [HM.out, szOf, hh.out]; simp [hall], hb0⟩
    · have hall : Hid (allLen rows[0].length rows = true) := by rw [Hid, hno.out, List.drop_of_length_le (by omega)]; rfl
      clear hno
      by_cases h8 : rows.length ≤ 8
      · have d1 : inB (rows.length : Int) 1 8 = true := by simp [inB]; omega
        by_cases hw8 : 1 ≤ rows[0].length ∧ rows[0].length ≤ 8
        · have d2 : inB (rows[0].length : Int) 1 8 = true := by simp [inB]; omega
          go_wp2_with (go_at_call 38; refine (l1In_any _ _ _ _).mono ?_; rintro e w' ⟨rfl, rfl⟩)
          go_ret2
          exact ⟨by rw [HM.out, szOf, hh.out]; simp [hall.out, h8, hw8], hb0⟩
        · have d2 : inB (rows[0].length : Int) 1 8 = false := by simp [inB]; omega
          go_wp2_with (go_at_call 38; refine (l1In_any _ _ _ _).mono ?_; rintro e w' ⟨rfl, rfl⟩)
          go_ret2
          exact ⟨by rw [HM.out, szOf, hh.out]; simp [hall.out, h8, hw8], hb0⟩
      · have d1 : inB (rows.length : Int) 1 8 = false := by simp [inB]; omega
        go_wp2_with (go_at_call 38; refine (l1In_any _ _ _ _).mono ?_; rintro e w' ⟨rfl, rfl⟩)
        go_ret2
        exact ⟨by rw [HM.out, szOf, hh.out]; simp [hall.out, h8], hb0⟩
end Go.Proofs.YthlbplmghjaeoaaDoor
