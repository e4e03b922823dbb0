/- Walks: the model's boards, cells and mines. -/
import Derived.Test.YthlbplmghjaeoaaDoorS2
import Derived.Outline
namespace Go.Proofs.YthlbplmghjaeoaaDoor
open Go.RowKit

def okSign (c : UInt8) : Bool := c == 46 || c == 42 || c == 47
theorem okSign_no {c : UInt8} (h1 : ¬ (c == 46) = true) (h2 : ¬ (c == 42) = true) (h3 : ¬ (c == 47) = true) : ¬ okSign c = true := by simp_all [okSign]
def okSigns : List UInt8 → Bool
  | [] => true
  | c :: r => if okSign c = true then okSigns r else false
def boGoodM (l : List UInt8) : Bool := if l.length ≤ 72 then (if (boSizeM l).1 = 0 then false else okSigns l) else false

theorem byte_beq (x : UInt8) (n : Nat) (h : n < 256) : ((x.toNat : Int) == (n : Int)) = (x == UInt8.ofNat n) := by
  have := u8_eq_int x (UInt8.ofNat n)
  have e : (UInt8.ofNat n).toNat = n := by simp; omega
  rw [e] at this
  rw [this]
  by_cases hx : x = UInt8.ofNat n <;> simp [hx]

set_option maxRecDepth 100000 in
set_option maxHeartbeats 800000 in
theorem boGood_any (l : List UInt8) (w : World) (hl : l.length ≤ 1048576) :
    Calls Tryd.prog 60 #[.string ⟨l.toArray⟩] w fun e w' => e = .returned (.bool (boGoodM l)) ∧ Below w.heap.size w w' := by
  by_cases h72 : l.length ≤ 72
  · go_enter Tryd.func60, Tryd.ntmps60
    go_wp2_with fail
    refine (boSize_any l _ hl).mono ?_
    rintro e w1 ⟨rfl, hb⟩
    by_cases h0 : (boSizeM l).1 = 0
    · have d0 : (((boSizeM l).1 : Int) == 0) = true := by simp [h0]
      have H0 := Lib.hid h0
      clear h0
      go_wp2_with fail
      go_ret
      exact ⟨by simp [boGoodM, h72, H0.out], hb⟩
    · have d0 : (((boSizeM l).1 : Int) == 0) = false := by simp [h0]
      have H0 := Lib.hid h0
      clear h0
      go_wp2_with fail
      go_loop [5] (fun i => ∃ k : Nat, k ≤ l.length ∧ i = .int .i64 k ∧ Hid (okSigns l = okSigns (l.drop k))) (fun i => l.length - (intOf i).toNat)
      case atStart => exact ⟨0, Nat.zero_le _, rfl, rfl⟩
      case round =>
        obtain ⟨k, hk, rfl, hno⟩ := hrel
        by_cases hlt : k < l.length
        · have Ht := Lib.hid (List.drop_eq_getElem_cons hlt)
          have q1 := byte_beq l[k] 46 (by omega)
          have q2 := byte_beq l[k] 42 (by omega)
          have q3 := byte_beq l[k] 47 (by omega)
          by_cases c1 : (l[k] == 46) = true
          · have d1 : ((l[k].toNat : Int) != 46) = false := by simp only [bne]; rw [show ((46 : Int)) = ((46 : Nat) : Int) from rfl, q1]; simpa using c1
            have C1 := Lib.hid c1
            clear c1 q1 q2 q3
            go_wp2_with fail
            go_round
            case rel => exact ⟨k + 1, by omega, by go_num, by rw [Hid, hno.out, Ht.out, okSigns, if_pos (by rw [okSign, C1.out]; rfl)]⟩
            case measure => simp [intOf]; omega
          · have d1 : ((l[k].toNat : Int) != 46) = true := by simp only [bne]; rw [show ((46 : Int)) = ((46 : Nat) : Int) from rfl, q1]; simpa using c1
            have C1 := Lib.hid c1
            clear c1 q1
            by_cases c2 : (l[k] == 42) = true
            · have d2 : ((l[k].toNat : Int) != 42) = false := by simp only [bne]; rw [show ((42 : Int)) = ((42 : Nat) : Int) from rfl, q2]; simpa using c2
              have C2 := Lib.hid c2
              clear c2 q2 q3
              go_wp2_with fail
              go_round
              case rel => exact ⟨k + 1, by omega, by go_num, by rw [Hid, hno.out, Ht.out, okSigns, if_pos (by rw [okSign, C2.out]; simp)]⟩
              case measure => simp [intOf]; omega
            · have d2 : ((l[k].toNat : Int) != 42) = true := by simp only [bne]; rw [show ((42 : Int)) = ((42 : Nat) : Int) from rfl, q2]; simpa using c2
              have C2 := Lib.hid c2
              clear c2 q2
              by_cases c3 : (l[k] == 47) = true
              · have d3 : ((l[k].toNat : Int) != 47) = false := by simp only [bne]; rw [show ((47 : Int)) = ((47 : Nat) : Int) from rfl, q3]; simpa using c3
                have C3 := Lib.hid c3
                clear c3 q3
                go_wp2_with fail
                go_round
                case rel => exact ⟨k + 1, by omega, by go_num, by rw [Hid, hno.out, Ht.out, okSigns, if_pos (by rw [okSign, C3.out]; simp)]⟩
                case measure => simp [intOf]; omega
              · have d3 : ((l[k].toNat : Int) != 47) = true := by simp only [bne]; rw [show ((47 : Int)) = ((47 : Nat) : Int) from rfl, q3]; simpa using c3
                have C3 := Lib.hid c3
                clear c3 q3
                go_wp2_with fail
                go_ret
                exact ⟨by rw [boGoodM, if_pos h72, if_neg H0.out, hno.out, Ht.out, okSigns, if_neg (okSign_no C1.out C2.out C3.out)]; rfl, hb⟩
        · go_wp2_with fail
          go_ret
          exact ⟨by rw [boGoodM, if_pos h72, if_neg H0.out, hno.out, List.drop_of_length_le (by omega)]; rfl, hb⟩
  · have h72' : 72 < l.length := by omega
    have h0 : boGoodM l = false := by rw [boGoodM, if_neg h72]
    clear h72
    go_enter Tryd.func60, Tryd.ntmps60
    go_wp2_with fail
    go_ret
    exact ⟨by rw [h0]; rfl, Below.refl _ _⟩

theorem boGood_len {l : List UInt8} (h : boGoodM l = true) : l.length ≤ 72 := by
  unfold boGoodM at h
  by_cases h72 : l.length ≤ 72
  · exact h72
  · simp [h72] at h

/-- The cells of a text: all signs but the breaks. -/
def cellsM (l : List UInt8) : List UInt8 := l.filter (· != 47)
theorem cellsM_snoc (l : List UInt8) (k : Nat) (hk : k < l.length) : cellsM (l.take (k + 1)) = cellsM (l.take k) ++ (if (l[k] == 47) = true then [] else [l[k]]) := by
  rw [List.take_succ_eq_append_getElem hk, cellsM, List.filter_append]
  by_cases h : l[k] = 47 <;> simp [cellsM, h]
theorem cellsM_le (l : List UInt8) : (cellsM l).length ≤ l.length := List.length_filter_le _ _

set_option maxRecDepth 100000 in
set_option maxHeartbeats 800000 in
theorem boCells_any (l : List UInt8) (w : World) (hl : l.length ≤ 1048576) :
    Calls Tryd.prog 57 #[.string ⟨l.toArray⟩] w fun e w' => e = .returned (.string ⟨(cellsM l).toArray⟩) ∧ w = w' := by
  go_enter Tryd.func57, Tryd.ntmps57
  go_wp2_with fail
  go_loop [3, 4] (fun o i => ∃ k : Nat, k ≤ l.length ∧ i = .int .i64 k ∧ o = .string ⟨(cellsM (l.take k)).toArray⟩) (fun _ i => l.length - (intOf i).toNat)
  case atStart => exact ⟨0, Nat.zero_le _, rfl, rfl⟩
  case round =>
    obtain ⟨k, hk, rfl, rfl⟩ := hrel
    have hle : (cellsM (l.take k)).length ≤ l.length := Nat.le_trans (cellsM_le _) (by simp; omega)
    by_cases hlt : k < l.length
    · have Hs := Lib.hid (cellsM_snoc l k hlt)
      have q := byte_beq l[k] 47 (by omega)
      by_cases c1 : (l[k] == 47) = true
      · have d1 : ((l[k].toNat : Int) != 47) = false := by simp only [bne]; rw [show ((47 : Int)) = ((47 : Nat) : Int) from rfl, q]; simpa using c1
        have C1 := Lib.hid c1
        clear c1 q
        go_wp2_with fail
        go_round
        case rel => exact ⟨k + 1, by omega, by go_num, by rw [Hs.out, if_pos C1.out]; simp⟩
        case measure => simp [intOf]; omega
      · have d1 : ((l[k].toNat : Int) != 47) = true := by simp only [bne]; rw [show ((47 : Int)) = ((47 : Nat) : Int) from rfl, q]; simpa using c1
        have C1 := Lib.hid c1
        have e1 : Hid ((l.drop k).take 1 = [l[k]]) := by
          rw [Hid, List.drop_eq_getElem_cons hlt]; rfl
        clear c1 q
        generalize cellsM (l.take k) = acc at *
        go_wp2_with fail
        go_round
        case rel => exact ⟨k + 1, by omega, by go_num, by rw [Hs.out, if_neg C1.out, e1.out]⟩
        case measure => simp [intOf]; omega
    · obtain rfl : k = l.length := by omega
      go_wp2_with fail
      go_ret
      exact ⟨by simp, rfl⟩
end Go.Proofs.YthlbplmghjaeoaaDoor
