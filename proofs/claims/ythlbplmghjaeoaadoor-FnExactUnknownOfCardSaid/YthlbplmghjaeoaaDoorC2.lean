/- Notes: what the model and the program call notes (plain lemmas), the program's signs, the model's test. -/
import Derived.Test.YthlbplmghjaeoaaDoorW0
import Derived.Test.YthlbplmghjaeoaaDoorW3
import Derived.Outline
namespace Go.Proofs.YthlbplmghjaeoaaDoor
open Go.RowKit

/-- The signs of notes as the program asks for them, and as the model does. -/
def noteSign (c : UInt8) : Bool := viewSign c || rowSign c
def ruSign (c : UInt8) : Bool := c == 47 || c == 63 || c == 42 || c == 46 || digSign c
def ruGoodM (l : List UInt8) : Bool := if l.length ≤ 72 then (if (boSizeM l).1 = 0 then false else l.all ruSign) else false
theorem note_cells (l : List UInt8) : (cellsM l).all noteSign = l.all ruSign := by
  rw [cellsM, List.all_filter]
  congr 1
  funext c
  by_cases h : c = 47
  · subst h; rfl
  · have h2 : (c == 47) = false := by simpa using h
    simp only [ruSign, noteSign, viewSign, rowSign, h2, bne, Bool.false_or, Bool.not_false]
    cases (c == 63) <;> cases (c == 42) <;> cases (c == 46) <;> cases digSign c <;> rfl
theorem note_good (l : List UInt8) : ruGoodM l = gridM noteSign l := by
  have hpos := splitB_pos 47 l
  have hsum := splitB_sum l
  unfold ruGoodM gridM boSizeM szOf
  rw [note_cells]
  generalize splitB 47 l = rows at *
  by_cases hall : allLen (headLen rows) rows = true
  · have hfl := allLen_sum _ _ hall
    by_cases hs : 1 ≤ headLen rows ∧ headLen rows ≤ 8 ∧ rows.length ≤ 8
    · obtain ⟨h1, h2, h3⟩ := hs
      have hm : headLen rows * rows.length ≤ 8 * 8 := Nat.mul_le_mul h2 h3
      have h71 : l.length ≤ 71 := by omega
      have h72 : l.length ≤ 72 := by omega
      have hso : sizeOK (headLen rows) rows.length = true := by simp [sizeOK]; omega
      have h0 : ¬ headLen rows = 0 := by omega
      simp only [h71, h72, hso, hall, h1, h2, h3, h0, and_self, if_true, if_false]
    · have hso : ¬ sizeOK (headLen rows) rows.length = true := by simp [sizeOK]; omega
      have hc : ¬ (allLen (headLen rows) rows = true ∧ rows.length ≤ 8 ∧ 1 ≤ headLen rows ∧ headLen rows ≤ 8) := fun h => hs ⟨h.2.2.1, h.2.2.2, h.2.1⟩
      simp only [hso, hc]
      simp
  · have hc : ¬ (allLen (headLen rows) rows = true ∧ rows.length ≤ 8 ∧ 1 ≤ headLen rows ∧ headLen rows ≤ 8) := fun h => hall h.1
    simp only [hc]
    simp at hall
    simp [hall]
theorem note_ne47 {c : UInt8} (h : noteSign c = true) : c ≠ 47 := by
  intro q
  subst q
  revert h
  decide
/-- What notes give: their width, their height and their cells. -/
theorem Grd.note {l : List UInt8} (h : gridM noteSign l = true) : Grd l (grW noteSign l) (grH noteSign l) (grC noteSign l) ∧ (∀ c ∈ grC noteSign l, noteSign c = true) := by
  refine ⟨Grd.of h, ?_⟩
  obtain ⟨_, _, _, _, _, _, _, f⟩ := grid_facts h
  rw [grC, if_pos h]
  exact List.all_eq_true.1 f
/-- A text of rows that is cut and joined again is the text. -/
theorem joinTail_split : ∀ (l cur : List UInt8), Lib.joinTail [47] (splitGo 47 cur l) = 47 :: (cur ++ l)
  | [], cur => by simp [splitGo, Lib.joinTail]
  | c :: r, cur => by
    unfold splitGo
    by_cases h : c = 47
    · have e : Lib.joinTail [47] (cur :: splitGo 47 [] r) = 47 :: (cur ++ Lib.joinTail [47] (splitGo 47 [] r)) := by simp [Lib.joinTail]
      rw [if_pos h, e, joinTail_split r [], h]
      simp
    · rw [if_neg h, joinTail_split r (cur ++ [c])]
      simp
theorem join_split (l : List UInt8) : Lib.join (splitB 47 l) [47] = l := by
  have h := joinTail_split l []
  have hpos := splitB_pos 47 l
  unfold splitB at hpos ⊢
  cases hs : splitGo 47 [] l with
  | nil => rw [hs] at hpos; simp at hpos
  | cons x r =>
    rw [hs] at h
    have e : Lib.joinTail [47] (x :: r) = 47 :: (x ++ Lib.joinTail [47] r) := by simp [Lib.joinTail]
    rw [e] at h
    rw [Lib.join_cons]
    simpa using h
theorem rowsM_flats (W : Nat) : ∀ rows : List (List UInt8), (∀ r ∈ rows, r.length = W) → rowsM rows.flatten W rows.length = rows
  | [], _ => rfl
  | r :: rows, h => by
    have hr : r.length = W := h r List.mem_cons_self
    subst hr
    rw [List.flatten_cons, List.length_cons, rowsM, List.take_left, List.drop_left, rowsM_flats _ rows (fun x hx => h x (List.mem_cons_of_mem _ hx))]
theorem Grd.text {p : UInt8 → Bool} {l : List UInt8} (h : gridM p l = true) : textM (grC p l) (grW p l) (grH p l) = l := by
  obtain ⟨_, f1, _, _, _, _, _, _⟩ := grid_facts h
  have h2 := rowsM_flats _ (splitB 47 l) ((allLen_iff _ _).1 f1)
  rw [grC, grW, grH, if_pos h, if_pos h, if_pos h, textM, ← splitB_flatten, h2, join_split]

set_option maxRecDepth 100000 in
set_option maxHeartbeats 800000 in
theorem isNoteSign_any (c : UInt8) (w : World) :
    Calls Tryd.prog 87 #[.int .u8 (c.toNat : Int)] w fun e w' => e = .returned (.bool (noteSign c)) ∧ w = w' := by
  have h1 := fun w => isViewSign_any c w
  have h2 := fun w => isBoardSign_any c w
  cases hv : viewSign c with
  | true =>
    have HB := Lib.hid (show noteSign c = true by rw [noteSign, hv]; rfl)
    rw [hv] at h1
    clear hv h2
    go_enter Tryd.func87, Tryd.ntmps87
    go_wp2_with (go_at_call 110; refine (h1 _).mono ?_; rintro e w1 ⟨rfl, rfl⟩)
    go_ret
    exact ⟨by rw [HB.out]; rfl, rfl⟩
  | false =>
    have HB := Lib.hid (show noteSign c = rowSign c by rw [noteSign, hv]; rfl)
    rw [hv] at h1
    clear hv
    go_enter Tryd.func87, Tryd.ntmps87
    go_wp2_with fail
    refine (h1 _).mono ?_
    rintro e w1 ⟨rfl, rfl⟩
    go_wp2_with fail
    refine (h2 _).mono ?_
    rintro e w1 ⟨rfl, rfl⟩
    go_wp2_with fail
    go_ret
    exact ⟨by rw [HB.out]; rfl, rfl⟩
theorem signs_note : Signs 87 noteSign := ⟨fun args w' => by go_simp, isNoteSign_any⟩

set_option maxRecDepth 100000 in
set_option maxHeartbeats 1600000 in
theorem ruGood_any (l : List UInt8) (w : World) (hl : l.length ≤ 1048576) :
    Calls Tryd.prog 54 #[.string ⟨l.toArray⟩] w fun e w' => e = .returned (.bool (gridM noteSign l)) ∧ Below w.heap.size w w' := by
  rw [← note_good]
  by_cases h72 : l.length ≤ 72
  · go_enter Tryd.func54, Tryd.ntmps54
    go_wp2_with fail
    refine (boSize_any l _ hl).mono ?_
    rintro e w1 ⟨rfl, hb⟩
    by_cases h0 : (boSizeM l).1 = 0
    · have d0 : (((boSizeM l).1 : Int) == 0) = true := by simp [h0]
      have H0 := Lib.hid h0
      clear h0
      go_wp2_with fail
      go_ret
      exact ⟨by simp [ruGoodM, h72, H0.out], hb⟩
    · have d0 : (((boSizeM l).1 : Int) == 0) = false := by simp [h0]
      have H0 := Lib.hid h0
      clear h0
      go_wp2_with fail
      go_loop [5] (fun i => ∃ k : Nat, k ≤ l.length ∧ i = .int .i64 k ∧ Hid (l.all ruSign = (l.drop k).all ruSign)) (fun i => l.length - (intOf i).toNat)
      case atStart => exact ⟨0, Nat.zero_le _, rfl, rfl⟩
      case round =>
        obtain ⟨k, hk, rfl, hno⟩ := hrel
        by_cases hlt : k < l.length
        · have Ht := Lib.hid (List.drop_eq_getElem_cons hlt)
          have q (n : Nat) (h : n < 256) : ((l[k].toNat : Int) != (n : Int)) = !(l[k] == UInt8.ofNat n) := by rw [bne, byte_beq l[k] n h]
          have q1 := q 47 (by omega)
          have q2 := q 63 (by omega)
          have q3 := q 42 (by omega)
          have q4 := q 46 (by omega)
          clear q
          have nxt (hs : ruSign l[k] = true) : l.all ruSign = (l.drop (k + 1)).all ruSign := by rw [hno.out, Ht.out, List.all_cons, hs]; rfl
          have NX := Lib.hid nxt
          clear nxt
          by_cases c1 : (l[k] == 47) = true
          · have d1 : ((l[k].toNat : Int) != 47) = false := by rw [show ((47 : Int)) = ((47 : Nat) : Int) from rfl, q1]; simpa using c1
            have C1 := Lib.hid (show ruSign l[k] = true by rw [ruSign, c1]; rfl)
            clear c1 q1 q2 q3 q4
            go_wp2_with fail
            go_round
            case rel => exact ⟨k + 1, by omega, by go_num, NX.out C1.out⟩
            case measure => simp [intOf]; omega
          · have d1 : ((l[k].toNat : Int) != 47) = true := by rw [show ((47 : Int)) = ((47 : Nat) : Int) from rfl, q1]; simpa using c1
            by_cases c2 : (l[k] == 63) = true
            · have d2 : ((l[k].toNat : Int) != 63) = false := by rw [show ((63 : Int)) = ((63 : Nat) : Int) from rfl, q2]; simpa using c2
              have C1 := Lib.hid (show ruSign l[k] = true by rw [ruSign, c2]; simp)
              clear c1 c2 q1 q2 q3 q4
              go_wp2_with fail
              go_round
              case rel => exact ⟨k + 1, by omega, by go_num, NX.out C1.out⟩
              case measure => simp [intOf]; omega
            · have d2 : ((l[k].toNat : Int) != 63) = true := by rw [show ((63 : Int)) = ((63 : Nat) : Int) from rfl, q2]; simpa using c2
              by_cases c3 : (l[k] == 42) = true
              · have d3 : ((l[k].toNat : Int) != 42) = false := by rw [show ((42 : Int)) = ((42 : Nat) : Int) from rfl, q3]; simpa using c3
                have C1 := Lib.hid (show ruSign l[k] = true by rw [ruSign, c3]; simp)
                clear c1 c2 c3 q1 q2 q3 q4
                go_wp2_with fail
                go_round
                case rel => exact ⟨k + 1, by omega, by go_num, NX.out C1.out⟩
                case measure => simp [intOf]; omega
              · have d3 : ((l[k].toNat : Int) != 42) = true := by rw [show ((42 : Int)) = ((42 : Nat) : Int) from rfl, q3]; simpa using c3
                by_cases c4 : (l[k] == 46) = true
                · have d4 : ((l[k].toNat : Int) != 46) = false := by rw [show ((46 : Int)) = ((46 : Nat) : Int) from rfl, q4]; simpa using c4
                  have C1 := Lib.hid (show ruSign l[k] = true by rw [ruSign, c4]; simp)
                  clear c1 c2 c3 c4 q1 q2 q3 q4
                  go_wp2_with fail
                  go_round
                  case rel => exact ⟨k + 1, by omega, by go_num, NX.out C1.out⟩
                  case measure => simp [intOf]; omega
                · have d4 : ((l[k].toNat : Int) != 46) = true := by rw [show ((46 : Int)) = ((46 : Nat) : Int) from rfl, q4]; simpa using c4
                  have HS : ruSign l[k] = digSign l[k] := by
                    rw [ruSign]; simp only [Bool.not_eq_true] at c1 c2 c3 c4; rw [c1, c2, c3, c4]; rfl
                  by_cases g1 : 48 ≤ l[k].toNat
                  · by_cases g2 : l[k].toNat ≤ 56
                    · have C1 := Lib.hid (show ruSign l[k] = true by rw [HS]; simp [digSign, g1, g2])
                      have i1 : ¬ ((l[k].toNat : Int) < 48) := by omega
                      have i2 : ¬ (56 < (l[k].toNat : Int)) := by omega
                      clear g1 g2 c1 c2 c3 c4 q1 q2 q3 q4 HS
                      go_wp2_with fail
                      go_round
                      case rel => exact ⟨k + 1, by omega, by go_num, NX.out C1.out⟩
                      case measure => simp [intOf]; omega
                    · have C1 := Lib.hid (show ruSign l[k] = false by rw [HS]; simp [digSign, g2])
                      have i1 : ¬ ((l[k].toNat : Int) < 48) := by omega
                      have i2 : (56 < (l[k].toNat : Int)) := by omega
                      clear g1 g2 c1 c2 c3 c4 q1 q2 q3 q4 HS
                      go_wp2_with fail
                      go_ret
                      exact ⟨by rw [ruGoodM, if_pos h72, if_neg H0.out, hno.out, Ht.out, List.all_cons, C1.out]; rfl, hb⟩
                  · have C1 := Lib.hid (show ruSign l[k] = false by rw [HS]; simp [digSign, g1])
                    have i1 : ((l[k].toNat : Int) < 48) := by omega
                    clear g1 c1 c2 c3 c4 q1 q2 q3 q4 HS
                    go_wp2_with fail
                    go_ret
                    exact ⟨by rw [ruGoodM, if_pos h72, if_neg H0.out, hno.out, Ht.out, List.all_cons, C1.out]; rfl, hb⟩
        · obtain rfl : k = l.length := by omega
          go_wp2_with fail
          go_ret
          exact ⟨by rw [ruGoodM, if_pos h72, if_neg H0.out, hno.out, List.drop_length]; rfl, hb⟩
  · have h72' : 72 < l.length := by omega
    have h0 : ruGoodM l = false := by rw [ruGoodM, if_neg h72]
    clear h72
    go_enter Tryd.func54, Tryd.ntmps54
    go_wp2_with fail
    go_ret
    exact ⟨by rw [h0]; rfl, Below.refl _ _⟩
end Go.Proofs.YthlbplmghjaeoaaDoor
