/- Counts by the model: the first board with the greatest sum. -/
import Derived.Test.YthlbplmghjaeoadJ7
import Derived.Outline
namespace Go.Proofs.Ythlbplmghjaeoad
open Go.RowKit

/-- What FirstGreatest hands back. -/
def fgS (W : Nat) (s : List UInt8 × Int) (c : List UInt8) : List UInt8 × Int := if s.2 < (sumGo c W 0 c.length : Nat) then (c, ((sumGo c W 0 c.length : Nat) : Int)) else s
def fgL (W : Nat) (L : List (List UInt8)) : List UInt8 × Int := L.foldl (fgS W) ([], -1)
def fgM (w h : Int) : List UInt8 := if szB w h 12 = true then textM (fgL w.toNat (allM (w.toNat * h.toNat) (-1))).1 w.toNat h.toNat else []
theorem fgL_snoc (W : Nat) (L : List (List UInt8)) (k : Nat) (hk : k < L.length) : fgL W (L.take (k + 1)) = fgS W (fgL W (L.take k)) L[k] := by
  rw [List.take_succ_eq_append_getElem hk, fgL, List.foldl_append, ← fgL]; rfl
theorem fgL_len (W n : Nat) (L : List (List UInt8)) (hL : ∀ c ∈ L, c.length = n) : ∀ k, 1 ≤ k → k ≤ L.length → (fgL W (L.take k)).1.length = n
  | 1, _, h => by
    rw [fgL_snoc W L 0 (by omega), fgS, if_pos (by simp [fgL]; omega)]
    exact hL _ (List.getElem_mem _)
  | k + 2, _, h => by
    rw [fgL_snoc W L (k + 1) (by omega), fgS]
    split
    · exact hL _ (List.getElem_mem _)
    · exact fgL_len W n L hL (k + 1) (by omega) (by omega)
theorem fgL_most (W n : Nat) (L : List (List UInt8)) (hL : ∀ c ∈ L, c.length = n) (hn : n ≤ 12) : ∀ k, k ≤ L.length → -1 ≤ (fgL W (L.take k)).2 ∧ (fgL W (L.take k)).2 ≤ 144
  | 0, _ => by simp [fgL]
  | k + 1, h => by
    have ih := fgL_most W n L hL hn k (by omega)
    rw [fgL_snoc W L k (by omega), fgS]
    split
    · have h1 := sumGo_le L[k] W L[k].length 0
      have h2 := hL L[k] (List.getElem_mem _)
      rw [h2] at h1 ⊢
      have h3 : n * n ≤ 12 * 12 := Nat.mul_le_mul hn hn
      omega
    · exact ih
theorem allM_pos (n : Nat) : 1 ≤ (allM n (-1)).length := by
  rw [allM, allK]
  have e : ((List.range (2 ^ n)).map (ctB n)).filter (mnB (-1)) = (List.range (2 ^ n)).map (ctB n) := List.filter_eq_self.2 fun c _ => by simp [mnB]
  rw [e, List.length_map, List.length_range]
  exact Nat.one_le_two_pow

set_option maxRecDepth 100000 in
set_option maxHeartbeats 1600000 in
theorem sFirstGreatest_any (w h : Int) (ws : World) :
    Calls Try.prog 24 #[.int .i64 w, .int .i64 h] ws fun e w' => e = .returned (.tuple #[.string ⟨(fgM w h).toArray⟩, .bool (szB w h 12)]) ∧ Below ws.heap.size ws w' := by
  have h1 := fun wr => ctSize_any w h 12 wr
  rcases sz_case w h 12 with hs | ⟨hs, W, H, rfl, rfl, hW1, hW2, hH1, hH2, hn⟩
  · rw [hs] at h1
    have HM : Hid (fgM w h = []) := by rw [Hid, fgM, hs]; rfl
    rw [hs]
    have H1 := Lib.hid h1
    clear hs h1
    go_enter Try.func24, Try.ntmps24
    go_wp2_with fail
    refine (H1.out _).mono ?_
    rintro e w1 ⟨rfl, rfl⟩
    go_wp2_with fail
    go_ret2
    exact ⟨by rw [HM.out]; rfl, Below.refl _ _⟩
  · rw [hs] at h1
    have HM : Hid (fgM W H = textM (fgL W (allM (W * H) (-1))).1 W H) := by rw [Hid, fgM, if_pos hs]; rfl
    rw [hs]
    have H1 := Lib.hid h1
    have hn12 : W * H ≤ 12 := by omega
    have h2 := fun wr => ctAll_any (W * H) (-1) hn12 wr
    rw [Int.natCast_mul] at hn h2
    have H2 := Lib.hid h2
    have a1 : 0 ≤ (W : Int) * H := Int.mul_nonneg (by omega) (by omega)
    have hll := allM_le (W * H) (-1) hn12
    have hlp := allM_pos (W * H)
    have HCS := Lib.hid (fun k (hk : k < (allM (W * H) (-1)).length) wr => ctSum_any W H ((allM (W * H) (-1))[k]) ⟨hW1, hW2⟩ hH2 (allM_len (List.getElem_mem hk)) (allM_brd (List.getElem_mem hk)) wr)
    have hLm : ∀ c ∈ allM (W * H) (-1), c.length = W * H := fun c hc => allM_len hc
    have HFS := Lib.hid (fun k hk => fgL_snoc W (allM (W * H) (-1)) k hk)
    have HFM := Lib.hid (fun k hk => fgL_most W (W * H) (allM (W * H) (-1)) hLm hn12 k hk)
    have HFL := Lib.hid (fgL_len W (W * H) (allM (W * H) (-1)) hLm)
    have HSS : Hid (∀ s c, fgS W s c = if s.2 < (sumGo c W 0 c.length : Nat) then (c, ((sumGo c W 0 c.length : Nat) : Int)) else s) := fun _ _ => rfl
    have HF0 : Hid (fgL W ((allM (W * H) (-1)).take 0) = ([], -1)) := rfl
    have HBR := Lib.hid (fun (c : List UInt8) (hc : c.length = W * H) => brGo_text W H hW1 c hc)
    have HRO := Lib.hid (fun (c : List UInt8) (hc : c.length = W * H) w => boRows_any c W w (by omega) hW1 (by omega))
    clear hs h1 h2 hLm
    generalize allM (W * H) (-1) = A at *
    go_enter Try.func24, Try.ntmps24
    go_wp2_with fail
    refine (H1.out _).mono ?_
    rintro e w1 ⟨rfl, rfl⟩
    go_wp2_with fail
    refine (H2.out _).mono ?_
    rintro e w2 ⟨a2, c2, rfl, ho2, hb2⟩
    have HAT2 := Lib.hid ho2.at
    clear ho2
    go_wp2_with fail
    go_loopw [6, 7, 20] (fun b m i wr => ∃ (k : Nat) (best : List UInt8) (most : Int), k ≤ A.length ∧ i = .int .i64 k ∧ b = .string ⟨best.toArray⟩ ∧ m = .int .i64 most ∧ -1 ≤ most ∧ most ≤ 144 ∧ Hid (fgL W (A.take k) = (best, most)) ∧ Below w2.heap.size w2 wr) (fun _ _ i _ => A.length - (intOf i).toNat)
    case atStart => exact ⟨0, [], -1, Nat.zero_le _, rfl, rfl, rfl, by omega, by omega, HF0.out, Below.refl _ _⟩
    case round =>
      obtain ⟨k, best, most, hk, rfl, rfl, rfl, hm1, hm2, hR, hb⟩ := hrel
      have hbs := hb.size
      by_cases hlt : k < A.length
      · obtain ⟨g, o, hag, hc⟩ := txts_at (HAT2.out.later rfl hb) k hlt
        subst hag
        have HCk := Lib.hid (HCS.out k hlt)
        have hfs := HFS.out k hlt
        have hfm := HFM.out (k + 1) (by omega)
        rw [hR.out, HSS.out] at hfs
        generalize A[k] = x at *
        generalize sumGo x W 0 x.length = sx at *
        by_cases hgt : most < (sx : Int)
        · rw [if_pos hgt] at hfs
          rw [hfs] at hfm
          simp only at hfm
          have hf1 := hfm.1
          have hf2 := hfm.2
          have HF := Lib.hid hfs
          clear hfs hfm
          go_wp2_with fail
          refine (HCk.out _).mono ?_
          rintro e w5 ⟨rfl, hb5⟩
          have hb05 := hb.trans (hb5.mono hbs)
          go_wp2_with fail
          go_roundw
          case rel => exact ⟨k + 1, x, sx, by omega, by go_num, rfl, rfl, hf1, hf2, HF.out, hb05⟩
          case measure => simp [intOf]; omega
        · rw [if_neg hgt] at hfs
          have HF := Lib.hid hfs
          clear hfs hfm
          go_wp2_with fail
          refine (HCk.out _).mono ?_
          rintro e w5 ⟨rfl, hb5⟩
          have hb05 := hb.trans (hb5.mono hbs)
          go_wp2_with fail
          go_roundw
          case rel => exact ⟨k + 1, best, most, by omega, by go_num, rfl, rfl, hm1, hm2, HF.out, hb05⟩
          case measure => simp [intOf]; omega
      · obtain rfl : k = A.length := by omega
        have hfl := HFL.out A.length hlp (Nat.le_refl _)
        have hR2 := hR.out
        rw [List.take_length] at hR2
        rw [hR.out] at hfl
        rw [hR2] at HM
        simp only at hfl HM
        have HBb := Lib.hid (HBR.out best hfl)
        have HRb := Lib.hid (HRO.out best hfl)
        rw [HBb.out] at HRb
        clear hR2 hfl
        go_wp2_with fail
        refine (HRb.out _).mono ?_
        rintro e w6 ⟨rfl, rfl⟩
        go_wp2_with fail
        go_ret2
        exact ⟨by rw [HM.out]; rfl, hb2.trans (hb.mono hb2.size)⟩
end Go.Proofs.Ythlbplmghjaeoad
