/- Counts by the model: stripes, the greatest sum. -/
import Derived.Test.YthlbplmghjaeoadGJC
import Derived.Outline
namespace Go.Proofs.Ythlbplmghjaeoad
open Go.RowKit

/-- Rows of mines and free rows in turn. -/
def strS (W i from' : Nat) : UInt8 := if (i / W) % 2 = from' then 42 else 46
def strM (W H f : Nat) : List UInt8 := (List.range (W * H)).map fun i => strS W i f
theorem strM_length (W H f : Nat) : (strM W H f).length = W * H := by simp [strM]
theorem strM_snoc (W H f k : Nat) (h : k < W * H) : (strM W H f).take (k + 1) = (strM W H f).take k ++ [strS W k f] := by
  rw [List.take_succ_eq_append_getElem (by rw [strM_length]; exact h)]
  simp [strM]
theorem strM_brd (W H f : Nat) : Brd2 (strM W H f) := by
  intro c hc
  obtain ⟨i, _, rfl⟩ := List.mem_map.1 hc
  unfold strS
  split
  · exact .inr rfl
  · exact .inl rfl
theorem strS_row (W y x f : Nat) (hx : x < W) : strS W (y * W + x) f = if y % 2 = f then 42 else 46 := by
  have e : (y * W + x) / W = y := by
    rw [Nat.mul_comm, Nat.mul_add_div (by omega), Nat.div_eq_of_lt hx, Nat.add_zero]
  rw [strS, e]
def strN (W H f : Nat) : Nat := sumGo (strM W H f) W 0 (strM W H f).length

set_option maxRecDepth 100000 in
set_option maxHeartbeats 1600000 in
theorem ctStripes_any (W H f : Nat) (hW : 1 ≤ W ∧ W ≤ 8) (hH : 1 ≤ H ∧ H ≤ 8) (w : World) :
    Calls Try.prog 50 #[.int .i64 W, .int .i64 H, .int .i64 f] w fun e w' => e = .returned (.int .i64 (strN W H f : Nat)) ∧ Below w.heap.size w w' := by
  have HCS := Lib.hid (fun w => ctSum_any W H (strM W H f) hW hH.2 (strM_length W H f) (strM_brd W H f) w)
  have HM : Hid (strN W H f = sumGo (strM W H f) W 0 (strM W H f).length) := rfl
  have HSN := Lib.hid (strM_snoc W H f)
  have HSR := Lib.hid (fun y x hx => strS_row W y x f hx)
  have HLN := Lib.hid (strM_length W H f)
  have hS64 : (strM W H f).length ≤ 64 := by rw [strM_length]; exact Nat.mul_le_mul hW.2 hH.2
  have hW1 := hW.1
  have hW2 := hW.2
  have hH1 := hH.1
  have hH2 := hH.2
  rw [← HM.out] at HCS
  generalize strM W H f = S at *
  clear HM hW hH
  go_enter Try.func50, Try.ntmps50
  go_wp2_with fail
  go_loop [7, 8] (fun o i => ∃ y : Nat, y ≤ H ∧ i = .int .i64 y ∧ o = .string ⟨(S.take (y * W)).toArray⟩) (fun _ i => H - (intOf i).toNat)
  case atStart => exact ⟨0, by omega, rfl, by simp⟩
  case round =>
    obtain ⟨y, hy, rfl, rfl⟩ := hrel
    by_cases hlt : y < H
    · have hyW : y * W + W ≤ W * H := by
        have h := Nat.mul_le_mul_left W (show y + 1 ≤ H by omega)
        rw [Nat.mul_add, Nat.mul_one, Nat.mul_comm W y] at h
        exact h
      have HYW := Lib.hid hyW
      have HNX : Hid ((y + 1) * W = y * W + W) := Nat.succ_mul y W
      generalize hbb : y * W = b at *
      have HBB := Lib.hid hbb
      clear hyW hbb
      go_wp2_with fail
      go_loop [7, 9] (fun o i => ∃ x : Nat, x ≤ W ∧ i = .int .i64 x ∧ o = .string ⟨(S.take (b + x)).toArray⟩) (fun _ i => W - (intOf i).toNat)
      case atStart => exact ⟨0, by omega, rfl, by simp⟩
      case round =>
        obtain ⟨x, hx, rfl, rfl⟩ := hrel
        by_cases hltx : x < W
        · have hov : ¬ (9223372036854775807 < min (b + x) S.length + 1) := by omega
          have hsn := HSN.out (b + x) (by have := HYW.out; omega)
          have hsr := HSR.out y x hltx
          rw [HBB.out] at hsr
          rw [hsr] at hsn
          by_cases hyf : y % 2 = f
          · have hd : ((y : Int) % 2 == (f : Int)) = true := by simp; omega
            rw [if_pos hyf] at hsn
            have HS := Lib.hid hsn
            clear hsn hsr hyf
            go_wp2_with fail
            go_round
            case rel => exact ⟨x + 1, by omega, by go_num, by rw [show b + (x + 1) = b + x + 1 by omega, HS.out] <;> rfl⟩
            case measure => simp [intOf] <;> omega
          · have hd : ((y : Int) % 2 == (f : Int)) = false := by simp; omega
            rw [if_neg hyf] at hsn
            have HS := Lib.hid hsn
            clear hsn hsr hyf
            go_wp2_with fail
            go_round
            case rel => exact ⟨x + 1, by omega, by go_num, by rw [show b + (x + 1) = b + x + 1 by omega, HS.out] <;> rfl⟩
            case measure => simp [intOf] <;> omega
        · obtain rfl : x = W := by omega
          go_wp2_with fail
          go_round
          case rel => exact ⟨y + 1, by omega, by go_num, by rw [HNX.out] <;> rfl⟩
          case measure => simp [intOf] <;> omega
    · obtain rfl : y = H := by omega
      have HE : Hid (S.take (y * W) = S) := List.take_of_length_le (by rw [HLN.out, Nat.mul_comm]; exact Nat.le_refl _)
      rw [HE.out]
      go_wp2_with fail
      refine (HCS.out _).mono ?_
      rintro e w2 ⟨rfl, hb2⟩
      go_wp2_with fail
      go_ret
      exact ⟨rfl, hb2⟩

theorem l1Most_any (a b : Int) (w : World) :
    Calls Try.prog 49 #[.int .i64 a, .int .i64 b] w fun e w' => e = .returned (.int .i64 (if b < a then a else b)) ∧ w = w' := by
  by_cases h : b < a
  · rw [if_pos h]
    go_enter Try.func49, Try.ntmps49
    go_wp2_with fail
    go_ret
    exact ⟨rfl, rfl⟩
  · rw [if_neg h]
    go_enter Try.func49, Try.ntmps49
    go_wp2_with fail
    go_ret
    exact ⟨rfl, rfl⟩

/-- What GreatestSum hands back. -/
def gsM (w h : Int) : Int := if szB w h 64 = true then (if (strN h.toNat w.toNat 0 : Int) < strN w.toNat h.toNat 0 then (strN w.toNat h.toNat 0 : Int) else (strN h.toNat w.toNat 0 : Int)) else 0
set_option maxRecDepth 100000 in
theorem sGreatestSum_any (w h : Int) (ws : World) :
    Calls Try.prog 22 #[.int .i64 w, .int .i64 h] ws fun e w' => e = .returned (.tuple #[.int .i64 (gsM w h), .bool (szB w h 64)]) ∧ Below ws.heap.size ws w' := by
  have h1 := fun wr => ctSize_any w h 64 wr
  rcases sz_case w h 64 with hs | ⟨hs, W, H, rfl, rfl, hW1, hW2, hH1, hH2, hn⟩
  · rw [hs] at h1
    have HM : Hid (gsM w h = 0) := by rw [Hid, gsM, hs]; rfl
    rw [hs]
    have H1 := Lib.hid h1
    clear hs h1
    go_enter Try.func22, Try.ntmps22
    go_wp2_with fail
    refine (H1.out _).mono ?_
    rintro e w1 ⟨rfl, rfl⟩
    go_wp2_with fail
    go_ret2
    exact ⟨by rw [HM.out]; rfl, Below.refl _ _⟩
  · rw [hs] at h1
    have HM : Hid (gsM W H = if (strN H W 0 : Int) < strN W H 0 then (strN W H 0 : Int) else (strN H W 0 : Int)) := by rw [Hid, gsM, if_pos hs]; rfl
    rw [hs]
    have H1 := Lib.hid h1
    have HA := Lib.hid (fun wr => ctStripes_any W H 0 ⟨hW1, hW2⟩ ⟨hH1, hH2⟩ wr)
    have HB := Lib.hid (fun wr => ctStripes_any H W 0 ⟨hH1, hH2⟩ ⟨hW1, hW2⟩ wr)
    have HC := Lib.hid (fun wr => l1Most_any (strN W H 0) (strN H W 0) wr)
    rw [← HM.out] at HC
    clear hs h1 HM
    generalize gsM W H = g at *
    generalize strN W H 0 = s1 at *
    generalize strN H W 0 = s2 at *
    go_enter Try.func22, Try.ntmps22
    go_wp2_with fail
    refine (H1.out _).mono ?_
    rintro e w1 ⟨rfl, rfl⟩
    go_wp2_with fail
    refine (HA.out _).mono ?_
    rintro e w1 ⟨rfl, hb1⟩
    go_wp2_with fail
    refine (HB.out _).mono ?_
    rintro e w2 ⟨rfl, hb2⟩
    go_wp2_with fail
    refine (HC.out _).mono ?_
    rintro e w3 ⟨rfl, rfl⟩
    go_wp2_with fail
    go_ret2
    exact ⟨rfl, hb1.trans (hb2.mono hb1.size)⟩
end Go.Proofs.Ythlbplmghjaeoad
