/- Views: what the model and the program call a view (plain lemmas), and the program's signs. -/
import Derived.Test.YthlbplmghjaeoafGI1
import Derived.Test.YthlbplmghjaeoafGS2
import Derived.Outline
namespace Go.Proofs.Ythlbplmghjaeoaf
open Go.RowKit

/-- The signs of a view as the model asks for them, and as the program does. -/
def digSign (c : UInt8) : Bool := decide (48 ≤ c.toNat) && decide (c.toNat ≤ 56)
def viSign (c : UInt8) : Bool := c == 63 || c == 47 || digSign c
def viewSign (c : UInt8) : Bool := c == 63 || digSign c
def viGoodM (l : List UInt8) : Bool := if l.length ≤ 72 then (if (boSizeM l).1 = 0 then false else (l.all viSign && decide (l.count 63 ≤ 14))) else false
/-- Whether the program reads a text as a view. -/
def viewM (l : List UInt8) : Bool := gridM viewSign l && decide ((places 63 (cellsM l)).length ≤ 14)

theorem placesGo_cnt (b : UInt8) : ∀ (l : List UInt8) (i : Nat), (placesGo b i l).length = l.count b
  | [], _ => by simp [placesGo]
  | c :: r, i => by
    unfold placesGo
    by_cases h : c = b
    · rw [if_pos h, List.length_cons, placesGo_cnt b r, h, List.count_cons_self]
    · rw [if_neg h, placesGo_cnt b r, List.count_cons_of_ne h]
theorem view_cells (l : List UInt8) : (cellsM l).all viewSign = l.all viSign := by
  rw [cellsM, List.all_filter]
  congr 1
  funext c
  by_cases h : c = 47
  · subst h; rfl
  · have h2 : (c == 47) = false := by simpa using h
    simp [viSign, viewSign, h2, h]
theorem view_count (l : List UInt8) : (places 63 (cellsM l)).length = l.count 63 := by
  rw [places, placesGo_cnt, cellsM, List.count_filter (by decide)]

theorem view_good (l : List UInt8) : viGoodM l = viewM l := by
  have hpos := splitB_pos 47 l
  have hsum := splitB_sum l
  unfold viGoodM viewM gridM boSizeM szOf
  rw [view_cells, view_count]
  generalize splitB 47 l = rows at *
  by_cases hall : allLen (headLen rows) rows = true
  · have hfl := allLen_sum _ _ hall
    by_cases hs : 1 ≤ headLen rows ∧ headLen rows ≤ 8 ∧ rows.length ≤ 8
    · obtain ⟨h1, h2, h3⟩ := hs
      have hm : headLen rows * rows.length ≤ 8 * 8 := Nat.mul_le_mul h2 h3
      have h71 : l.length ≤ 71 := by omega
      have h72 : l.length ≤ 72 := by omega
      have hso : sizeOK (headLen rows) rows.length = true := by simp [sizeOK]; omega
      have h0 : ¬ headLen rows = 0 := by omega
      simp only [h71, h72, hso, hall, h1, h2, h3, h0, and_self, if_true, if_false]
    · have hso : ¬ sizeOK (headLen rows) rows.length = true := by simp [sizeOK]; omega
      have hc : ¬ (allLen (headLen rows) rows = true ∧ rows.length ≤ 8 ∧ 1 ≤ headLen rows ∧ headLen rows ≤ 8) := fun h => hs ⟨h.2.2.1, h.2.2.2, h.2.1⟩
      simp only [hso, hc]
      simp
  · have hc : ¬ (allLen (headLen rows) rows = true ∧ rows.length ≤ 8 ∧ 1 ≤ headLen rows ∧ headLen rows ≤ 8) := fun h => hall h.1
    simp only [hc]
    simp at hall
    simp [hall]

theorem dig_lo (c : UInt8) : ((c.toNat : Int) < 48) ↔ ¬ 48 ≤ c.toNat := by omega

set_option maxRecDepth 100000 in
set_option maxHeartbeats 800000 in
theorem isOpenSign_any (c : UInt8) (w : World) :
    Calls Try.prog 34 #[.int .u8 (c.toNat : Int)] w fun e w' => e = .returned (.bool (digSign c)) ∧ w = w' := by
  have d0 := Lib.hid (digB_nat 0 (by omega))
  have d8 := Lib.hid (digB_nat 8 (by omega))
  by_cases h1 : 48 ≤ c.toNat
  · by_cases h2 : c.toNat ≤ 56
    · have HB := Lib.hid (show digSign c = true by simp [digSign, h1, h2])
      go_enter Try.func34, Try.ntmps34
      go_wp2_with fail
      refine (digit_any 0 _ (by omega)).mono ?_
      rintro e w1 ⟨rfl, rfl⟩
      rw [d0.out]
      go_wp2_with fail
      refine (digit_any 8 _ (by omega)).mono ?_
      rintro e w1 ⟨rfl, rfl⟩
      rw [d8.out]
      go_wp2_with fail
      go_ret
      exact ⟨by rw [HB.out]; simp <;> omega, rfl⟩
    · have HB := Lib.hid (show digSign c = false by simp [digSign, h2])
      go_enter Try.func34, Try.ntmps34
      go_wp2_with fail
      refine (digit_any 0 _ (by omega)).mono ?_
      rintro e w1 ⟨rfl, rfl⟩
      rw [d0.out]
      go_wp2_with fail
      refine (digit_any 8 _ (by omega)).mono ?_
      rintro e w1 ⟨rfl, rfl⟩
      rw [d8.out]
      go_wp2_with fail
      go_ret
      exact ⟨by rw [HB.out]; simp <;> omega, rfl⟩
  · have HB := Lib.hid (show digSign c = false by simp [digSign, h1])
    go_enter Try.func34, Try.ntmps34
    go_wp2_with fail
    refine (digit_any 0 _ (by omega)).mono ?_
    rintro e w1 ⟨rfl, rfl⟩
    rw [d0.out]
    go_wp2_with fail
    go_ret
    exact ⟨by rw [HB.out]; simp <;> omega, rfl⟩

end Go.Proofs.Ythlbplmghjaeoaf
