/- J9, JA, JB, laid as one text. -/
import Derived.Test.YthlbplmghjaeoaeJ8
import Derived.Outline

/- Counts by the model: the fewest mines such that each free cell has one beside it. -/
namespace Go.Proofs.Ythlbplmghjaeoae
open Go.RowKit

/-- Has a cell a mine, or one beside it? -/
def nfB (cells : List UInt8) (W k : Nat) : Bool := decide (cells.getD k 0 = 42) || decide (0 < numM cells W k)
def fitK (cells : List UInt8) (W k : Nat) : Bool := (List.range k).all (nfB cells W)
theorem fitK_step (cells : List UInt8) (W k : Nat) (hk : k < cells.length) : fitK cells W (k + 1) = (fitK cells W k && (decide (cells[k] = 42) || decide (0 < numM cells W k))) := by
  have hgd : cells.getD k 0 = cells[k] := by simp [List.getD, hk]
  rw [fitK, List.range_succ, List.all_append, ← fitK]
  simp [nfB, hk]
/-- The first board with the fewest mines. -/
def nrT (W : Nat) (s : List UInt8 × Int) (c : List UInt8) : List UInt8 × Int := if ((places 42 c).length : Int) < s.2 ∧ fitK c W c.length = true then (c, ((places 42 c).length : Int)) else s
def nrL (W n : Nat) (L : List (List UInt8)) : List UInt8 × Int := L.foldl (nrT W) ([], (n : Int) + 1)
theorem nrL_snoc (W n : Nat) (L : List (List UInt8)) (k : Nat) (hk : k < L.length) : nrL W n (L.take (k + 1)) = nrT W (nrL W n (L.take k)) L[k] := by
  rw [List.take_succ_eq_append_getElem hk, nrL, List.foldl_append, ← nrL]; rfl
theorem places_full (b : UInt8) : ∀ (L : List UInt8) (i : Nat), (∀ c ∈ L, c = b) → (placesGo b i L).length = L.length
  | [], _, _ => rfl
  | c :: r, i, h => by
    rw [placesGo, if_pos (h c List.mem_cons_self), List.length_cons, List.length_cons, places_full b r (i + 1) fun x hx => h x (List.mem_cons_of_mem _ hx)]
theorem ctB_zero (n : Nat) : ∀ c ∈ ctB n 0, c = 42 := by
  intro c hc
  obtain ⟨i, _, rfl⟩ := List.mem_map.1 hc
  rw [if_neg (by simp)]
theorem allM_first (n : Nat) (h : 0 < (allM n (-1)).length) : (allM n (-1))[0] = ctB n 0 := by
  have e : allM n (-1) = (List.range (2 ^ n)).map (ctB n) := by
    rw [allM, allK]
    exact List.filter_eq_self.2 fun c _ => by simp [mnB]
  have e2 : (allM n (-1))[0]? = some (ctB n 0) := by
    rw [e, List.getElem?_map, List.getElem?_range (by exact Nat.two_pow_pos n)]; rfl
  rw [List.getElem?_eq_getElem h] at e2
  exact Option.some.inj e2
theorem nrL_len (W n : Nat) : ∀ k, 1 ≤ k → k ≤ (allM n (-1)).length → (nrL W n ((allM n (-1)).take k)).1.length = n
  | 1, _, h => by
    rw [nrL_snoc W n _ 0 (by omega), allM_first n (by omega)]
    have h1 : (places 42 (ctB n 0)).length = n := by rw [places, places_full 42 _ 0 (ctB_zero n), ctB_length]
    have h2 : fitK (ctB n 0) W (ctB n 0).length = true := by
      rw [fitK, List.all_eq_true]
      intro i hi
      rw [List.mem_range] at hi
      have hgd : (ctB n 0).getD i 0 = 42 := by
        rw [List.getD, List.getElem?_eq_getElem hi]
        exact ctB_zero n _ (List.getElem_mem hi)
      rw [nfB, hgd]; rfl
    rw [nrT, if_pos ⟨by rw [h1]; simp [nrL]; omega, h2⟩]
    exact ctB_length n 0
  | k + 2, _, h => by
    rw [nrL_snoc W n _ (k + 1) (by omega), nrT]
    split
    · exact allM_len (List.getElem_mem _)
    · exact nrL_len W n (k + 1) (by omega) (by omega)
theorem nrL_least (W n : Nat) : ∀ k, k ≤ (allM n (-1)).length → 0 ≤ (nrL W n ((allM n (-1)).take k)).2 ∧ (nrL W n ((allM n (-1)).take k)).2 ≤ n + 1
  | 0, _ => by simp [nrL]; omega
  | k + 1, h => by
    have ih := nrL_least W n k (by omega)
    rw [nrL_snoc W n _ k (by omega), nrT]
    split
    · have h1 := placesGo_le 42 (allM n (-1))[k] 0
      have h2 := allM_len (List.getElem_mem (l := allM n (-1)) (n := k) (by omega))
      rw [h2] at h1
      rw [places]
      constructor
      · exact Int.natCast_nonneg _
      · omega
    · exact ih
def nearT (W H : Nat) : List UInt8 := (nrL W (W * H) (allM (W * H) (-1))).1
theorem nearT_len (W H : Nat) : (nearT W H).length = W * H := by
  have h := nrL_len W (W * H) _ (allM_pos (W * H)) (Nat.le_refl _)
  rw [List.take_length] at h
  exact h

set_option maxRecDepth 100000 in
set_option maxHeartbeats 3200000 in
theorem ctNear_any (W H : Nat) (hW1 : 1 ≤ W) (hW2 : W ≤ 8) (hH1 : 1 ≤ H) (hH2 : H ≤ 8) (hn12 : W * H ≤ 12) (w : World) :
    Calls Try.prog 28 #[.int .i64 W, .int .i64 H] w fun e w' => e = .returned (.string ⟨(nearT W H).toArray⟩) ∧ Below w.heap.size w w' := by
  have HM : Hid (nearT W H = (nrL W (W * H) (allM (W * H) (-1))).1) := rfl
  have h2 := fun wr => ctAll_any (W * H) (-1) hn12 wr
  have hn : ((W * H : Nat) : Int) ≤ 12 := by omega
  rw [Int.natCast_mul] at hn h2
  have H2 := Lib.hid h2
  have a1 : 0 ≤ (W : Int) * H := Int.mul_nonneg (by omega) (by omega)
  have hll := allM_le (W * H) (-1) hn12
  have HBM := Lib.hid (fun k (hk : k < (allM (W * H) (-1)).length) w => boMines_any ((allM (W * H) (-1))[k]) 42 42 rfl w (by have := allM_len (List.getElem_mem hk); omega))
  have HNU := Lib.hid (fun k (hk : k < (allM (W * H) (-1)).length) c (hc : c < ((allM (W * H) (-1))[k]).length) w => boNumber_any W H ((allM (W * H) (-1))[k]) c w ⟨hW1, hW2⟩ hH2 (allM_len (List.getElem_mem hk)) hc)
  have HAS := Lib.hid (fun k (hk : k < (allM (W * H) (-1)).length) c (hc : c < ((allM (W * H) (-1))[k]).length) => (allM_brd (List.getElem_mem hk)).asc (k := c) hc)
  have HXL := Lib.hid (fun k (hk : k < (allM (W * H) (-1)).length) => allM_len (List.getElem_mem hk))
  have HFS := Lib.hid (fun k hk => nrL_snoc W (W * H) (allM (W * H) (-1)) k hk)
  have HFM := Lib.hid (fun k hk => nrL_least W (W * H) k hk)
  have HTT : Hid (∀ s c, nrT W s c = if ((places 42 c).length : Int) < s.2 ∧ fitK c W c.length = true then (c, ((places 42 c).length : Int)) else s) := fun _ _ => rfl
  have HF0 : Hid (nrL W (W * H) ((allM (W * H) (-1)).take 0) = ([], (W : Int) * H + 1)) := by rw [Hid, ← Int.natCast_mul]; rfl
  have HPL := Lib.hid (fun c => placesGo_le 42 c 0)
  have HWH : Hid (((W * H : Nat) : Int) = (W : Int) * H) := Int.natCast_mul _ _
  clear h2
  generalize allM (W * H) (-1) = A at *
  go_enter Try.func28, Try.ntmps28
  go_wp2_with fail
  refine (H2.out _).mono ?_
  rintro e w2 ⟨a2, c2, rfl, ho2, hb2⟩
  have HAT2 := Lib.hid ho2.at
  clear ho2
  go_wp2_with fail
  go_loopw [5, 6, 21] (fun b m i wr => ∃ (k : Nat) (best : List UInt8) (least : Int), k ≤ A.length ∧ i = .int .i64 k ∧ b = .string ⟨best.toArray⟩ ∧ m = .int .i64 least ∧ 0 ≤ least ∧ least ≤ 13 ∧ Hid (nrL W (W * H) (A.take k) = (best, least)) ∧ Below w2.heap.size w2 wr) (fun _ _ i _ => A.length - (intOf i).toNat)
  case atStart => exact ⟨0, [], (W : Int) * H + 1, Nat.zero_le _, rfl, rfl, rfl, by omega, by omega, HF0.out, Below.refl _ _⟩
  case round =>
    obtain ⟨k, best, least, hk, rfl, rfl, rfl, hm1, hm2, hR, hb⟩ := hrel
    obtain ⟨wo, rfl⟩ : ∃ wo : World, wo = wr := ⟨_, rfl⟩
    have hbs := hb.size
    by_cases hlt : k < A.length
    · obtain ⟨g, o, hag, hc⟩ := txts_at (HAT2.out.later rfl hb) k hlt
      subst hag
      have HBk := Lib.hid (HBM.out k hlt)
      have HNk := Lib.hid (HNU.out k hlt)
      have HAk := Lib.hid (HAS.out k hlt)
      have hxl := HXL.out k hlt
      have hfs := HFS.out k hlt
      have hfm := HFM.out (k + 1) (by omega)
      rw [hR.out, HTT.out] at hfs
      generalize A[k] = x at *
      have hpl := HPL.out x
      have HPX : Hid ((placesGo 42 0 x).length = (places 42 x).length) := rfl
      rw [HPX.out] at hpl
      generalize places 42 x = pl at *
      by_cases hge : least ≤ (pl.length : Int)
      · have HF : Hid (nrL W (W * H) (A.take (k + 1)) = (best, least)) := by rw [Hid, hfs, if_neg (fun q => by have := q.1; simp only at this; omega)]
        clear hfs hfm
        go_wp2_with fail
        refine (HBk.out _).mono ?_
        rintro e w5 ⟨a5, c5, rfl, ho5, hb5⟩
        have hb05 := hb.trans (hb5.mono hbs)
        clear ho5 hb5
        go_wp2_with fail
        go_roundw
        case rel => exact ⟨k + 1, best, least, by omega, by go_num, rfl, rfl, hm1, hm2, HF, hb05⟩
        case measure => simp [intOf]; omega
      · have hlt2 : (pl.length : Int) < least := by omega
        clear hge
        have HFS2 := Lib.hid hfs
        have HFM2 := Lib.hid hfm
        have HXL2 := Lib.hid hxl
        have hx12 : x.length ≤ 12 := by omega
        clear hfs hfm hxl
        go_wp2_with fail
        refine (HBk.out _).mono ?_
        rintro e w5 ⟨a5, c5, rfl, ho5, hb5⟩
        have hb05 := hb.trans (hb5.mono hbs)
        clear ho5 hb5
        go_wp2_with fail
        have hI : (w5.iter ⟨x.toArray⟩ 0).heap[w5.heap.size]? = some (.stringIter ⟨x.toArray⟩ 0) := World.iter_heap w5 _ _
        have hbi : Below w5.heap.size w5 (w5.iter ⟨x.toArray⟩ 0) := (Below.refl _ _).alloc (Nat.le_refl _) _
        have hsi : w5.heap.size < (w5.iter ⟨x.toArray⟩ 0).heap.size := by simp [World.iter]
        have hbs5 := hb05.size
        generalize w5.iter ⟨x.toArray⟩ 0 = w6 at *
        generalize hII : w5.heap.size = I at *
        have HII := Lib.hid hII
        have hIw : w2.heap.size ≤ I := by omega
        clear hII
        go_loopw [10] (fun f wr => ∃ j : Nat, j ≤ x.length ∧ f = .bool (fitK x W j) ∧ Hid (wr.heap[I]? = some (.stringIter ⟨x.toArray⟩ j)) ∧ Below I w6 wr) (fun _ wr => x.length - wr.iterPos I)
        case atStart => exact ⟨0, Nat.zero_le _, rfl, hI, Below.refl _ _⟩
        case round =>
          obtain ⟨j, hj, rfl, hIr, hbr⟩ := hrel
          have hIlt := block_lt hIr.out
          by_cases hltj : j < x.length
          · have hasc := HAk.out j hltj
            have hnx := fun ty => Lib.run_next_ascii_at (P := Try.prog) wr I ⟨x.toArray⟩ j ty hIr.out (by simpa [ByteArray.size] using hltj) (by simpa using hasc)
            have hpos := Lib.hid (iterPos_at hIr.out)
            have i1 := iterAt_at hIlt ⟨x.toArray⟩ (j + 1)
            have i2 := iterAt_below wr I ⟨x.toArray⟩ (j + 1)
            have HNj := Lib.hid (fun w => HNk.out j hltj w)
            have hst := fitK_step x W j hltj
            clear hasc
            cases hf : fitK x W j with
            | false =>
              have HF : Hid (fitK x W (j + 1) = false) := by rw [Hid, hst, hf]; rfl
              clear hst hf
              go_wp2_with fail
              clear hnx
              go_roundw
              case rel => exact ⟨j + 1, by omega, by rw [HF.out], i1, hbr.trans i2⟩
              case measure => rw [hpos.out, iterPos_at i1]; omega
            | true =>
              by_cases h42 : x[j] = 42
              · have hd : ((x[j].toNat : Int) == 42) = true := by simp only [is42]; simp [h42]
                have HF : Hid (fitK x W (j + 1) = true) := by rw [Hid, hst, hf, decide_eq_true h42]; rfl
                clear hst hf h42
                go_wp2_with fail
                clear hnx
                go_roundw
                case rel => exact ⟨j + 1, by omega, by rw [HF.out], i1, hbr.trans i2⟩
                case measure => rw [hpos.out, iterPos_at i1]; omega
              · have hd : ((x[j].toNat : Int) == 42) = false := by simp only [is42]; simp [h42]
                have HF : Hid (fitK x W (j + 1) = decide (0 < numM x W j)) := by rw [Hid, hst, hf, decide_eq_false h42, Bool.true_and, Bool.false_or]
                clear hst hf h42
                generalize numM x W j = nu at *
                go_wp2_with fail
                clear hnx
                generalize wr.iterAt I ⟨x.toArray⟩ (j + 1) = wi at *
                refine (HNj.out _).mono ?_
                rintro e w8 ⟨rfl, hb8⟩
                have hIwi := block_lt i1
                have i5 := (hb8.block _ hIwi).trans i1
                have ip := Lib.hid (iterPos_at i5)
                have I5 := Lib.hid i5
                have hbr8 := hbr.trans (i2.trans (hb8.mono (by omega)))
                clear i1 i5 i2
                go_wp2_with fail
                go_roundw
                case rel => exact ⟨j + 1, by omega, by rw [HF.out] <;> rfl, I5, hbr8⟩
                case measure => rw [hpos.out, ip.out]; omega
          · obtain rfl : j = x.length := by omega
            have hnx := fun ty => Lib.run_next_end_at (P := Try.prog) wr I ⟨x.toArray⟩ x.length ty hIr.out (by simp [ByteArray.size])
            have hbw : Below w2.heap.size w2 wr := hb05.trans ((hbi.trans (hbr.mono (Nat.le_refl _))).mono hIw)
            cases hf : fitK x W x.length with
            | true =>
              have hfs := HFS2.out
              rw [if_pos ⟨hlt2, hf⟩] at hfs
              have hfm := HFM2.out
              rw [hfs] at hfm
              simp only at hfm
              have HF := Lib.hid hfs
              have hf1 := hfm.1
              clear hf hfs hfm
              go_wp2_with fail
              go_roundw
              case rel => exact ⟨k + 1, x, pl.length, by omega, by go_num, rfl, rfl, hf1, by omega, HF, hbw⟩
              case measure => simp [intOf]; omega
            | false =>
              have hfs := HFS2.out
              rw [if_neg (fun q => by have := q.2; rw [hf] at this; cases this)] at hfs
              have HF := Lib.hid hfs
              clear hf hfs
              go_wp2_with fail
              go_roundw
              case rel => exact ⟨k + 1, best, least, by omega, by go_num, rfl, rfl, hm1, hm2, HF, hbw⟩
              case measure => simp [intOf]; omega
    · obtain rfl : k = A.length := by omega
      have hR2 := hR.out
      rw [List.take_length] at hR2
      rw [hR2] at HM
      simp only at HM
      clear hR hR2
      go_wp2_with fail
      go_ret
      exact ⟨by rw [HM.out]; rfl, hb2.trans (hb.mono hb2.size)⟩
end Go.Proofs.Ythlbplmghjaeoae

/- Counts by the model: how few mines are beside all cells, and the first such board. -/
namespace Go.Proofs.Ythlbplmghjaeoae
open Go.RowKit

/-- What FewestNear hands back. -/
def fnM (w h : Int) : Nat := if szB w h 12 = true then (places 42 (nearT w.toNat h.toNat)).length else 0

set_option maxRecDepth 100000 in
set_option maxHeartbeats 1600000 in
theorem sFewestNear_any (w h : Int) (ws : World) :
    Calls Try.prog 10 #[.int .i64 w, .int .i64 h] ws fun e w' => e = .returned (.tuple #[.int .i64 (fnM w h : Nat), .bool (szB w h 12)]) ∧ Below ws.heap.size ws w' := by
  have h1 := fun wr => ctSize_any w h 12 wr
  rcases sz_case w h 12 with hs | ⟨hs, W, H, rfl, rfl, hW1, hW2, hH1, hH2, hn⟩
  · rw [hs] at h1
    have HM : Hid (fnM w h = 0) := by rw [Hid, fnM, hs]; rfl
    rw [hs]
    have H1 := Lib.hid h1
    clear hs h1
    go_enter Try.func10, Try.ntmps10
    go_wp2_with fail
    refine (H1.out _).mono ?_
    rintro e w1 ⟨rfl, rfl⟩
    go_wp2_with fail
    go_ret2
    exact ⟨by rw [HM.out]; rfl, Below.refl _ _⟩
  · rw [hs] at h1
    have HM : Hid (fnM W H = (places 42 (nearT W H)).length) := by rw [Hid, fnM, if_pos hs]; rfl
    rw [hs]
    have H1 := Lib.hid h1
    have HN := Lib.hid (fun wr => ctNear_any W H hW1 hW2 hH1 hH2 (by omega) wr)
    have hnl := nearT_len W H
    have HBM := Lib.hid (fun w => boMines_any (nearT W H) 42 42 rfl w (by omega))
    have hpl := placesGo_le 42 (nearT W H) 0
    clear hs h1
    generalize nearT W H = x at *
    go_enter Try.func10, Try.ntmps10
    go_wp2_with fail
    refine (H1.out _).mono ?_
    rintro e w1 ⟨rfl, rfl⟩
    go_wp2_with fail
    refine (HN.out _).mono ?_
    rintro e w2 ⟨rfl, hb2⟩
    go_wp2_with fail
    refine (HBM.out _).mono ?_
    rintro e w3 ⟨a3, c3, rfl, _, hb3⟩
    go_wp2_with fail
    go_ret2
    exact ⟨by rw [HM.out]; rfl, hb2.trans (hb3.mono hb2.size)⟩
/-- What FirstNear hands back. -/
def frM (w h : Int) : List UInt8 := if szB w h 12 = true then textM (nearT w.toNat h.toNat) w.toNat h.toNat else []

set_option maxRecDepth 100000 in
set_option maxHeartbeats 1600000 in
theorem sFirstNear_any (w h : Int) (ws : World) :
    Calls Try.prog 12 #[.int .i64 w, .int .i64 h] ws fun e w' => e = .returned (.tuple #[.string ⟨(frM w h).toArray⟩, .bool (szB w h 12)]) ∧ Below ws.heap.size ws w' := by
  have h1 := fun wr => ctSize_any w h 12 wr
  rcases sz_case w h 12 with hs | ⟨hs, W, H, rfl, rfl, hW1, hW2, hH1, hH2, hn⟩
  · rw [hs] at h1
    have HM : Hid (frM w h = []) := by rw [Hid, frM, hs]; rfl
    rw [hs]
    have H1 := Lib.hid h1
    clear hs h1
    go_enter Try.func12, Try.ntmps12
    go_wp2_with fail
    refine (H1.out _).mono ?_
    rintro e w1 ⟨rfl, rfl⟩
    go_wp2_with fail
    go_ret2
    exact ⟨by rw [HM.out]; rfl, Below.refl _ _⟩
  · rw [hs] at h1
    have HM : Hid (frM W H = textM (nearT W H) W H) := by rw [Hid, frM, if_pos hs]; rfl
    rw [hs]
    have H1 := Lib.hid h1
    have HN := Lib.hid (fun wr => ctNear_any W H hW1 hW2 hH1 hH2 (by omega) wr)
    have hnl := nearT_len W H
    have hbr := brGo_text W H hW1 (nearT W H) hnl
    have hro := fun w => boRows_any (nearT W H) W w (by omega) hW1 (by omega)
    rw [hbr] at hro
    have HRO := Lib.hid hro
    clear hro hbr
    clear hs h1
    generalize nearT W H = x at *
    go_enter Try.func12, Try.ntmps12
    go_wp2_with fail
    refine (H1.out _).mono ?_
    rintro e w1 ⟨rfl, rfl⟩
    go_wp2_with fail
    refine (HN.out _).mono ?_
    rintro e w2 ⟨rfl, hb2⟩
    go_wp2_with fail
    refine (HRO.out _).mono ?_
    rintro e w3 ⟨rfl, rfl⟩
    go_wp2_with fail
    go_ret2
    exact ⟨by rw [HM.out]; rfl, hb2⟩
end Go.Proofs.Ythlbplmghjaeoae

/- Counts by the model: boards with a free cell whose number is 0. -/
namespace Go.Proofs.Ythlbplmghjaeoae
open Go.RowKit

/-- Is a cell free, with no mine beside it? -/
def zfB (cells : List UInt8) (W k : Nat) : Bool := !decide (cells.getD k 0 = 42) && decide (numM cells W k = 0)
def zrB (W : Nat) (cells : List UInt8) : Bool := (List.range cells.length).any (zfB cells W)
/-- What CountZeroBoards hands back. -/
def czM (w h m : Int) : Nat := if cbB w h m = true then ((allM (w.toNat * h.toNat) m).filter (zrB w.toNat)).length else 0

set_option maxRecDepth 100000 in
set_option maxHeartbeats 3200000 in
theorem sCountZeroBoards_any (w h m : Int) (ws : World) :
    Calls Try.prog 16 #[.int .i64 w, .int .i64 h, .int .i64 m] ws fun e w' => e = .returned (.tuple #[.int .i64 (czM w h m : Nat), .bool (cbB w h m)]) ∧ Below ws.heap.size ws w' := by
  have h1 := fun wr => ctSize_any w h 12 wr
  rcases sz_case w h 12 with hs | ⟨hs, W, H, rfl, rfl, hW1, hW2, hH1, hH2, hn⟩
  · have hb : cbB w h m = false := by rw [cbB, hs]; rfl
    rw [hs] at h1
    have HM : Hid (czM w h m = 0) := by rw [Hid, czM, hb]; rfl
    rw [hb]
    have H1 := Lib.hid h1
    clear hs h1 hb
    go_enter Try.func16, Try.ntmps16
    go_wp2_with fail
    refine (H1.out _).mono ?_
    rintro e w1 ⟨rfl, rfl⟩
    go_wp2_with fail
    go_ret2
    exact ⟨by rw [HM.out]; rfl, Below.refl _ _⟩
  · have hb : cbB W H m = inB m 0 ((W : Int) * H) := by rw [cbB, hs, Bool.true_and]
    rw [hs] at h1
    have h2 := fun wr => l1In_any m 0 ((W : Int) * H) wr
    rw [← hb] at h2
    have hn12 : W * H ≤ 12 := by omega
    have h3 := fun wr => ctAll_any (W * H) m hn12 wr
    rw [Int.natCast_mul] at hn h3
    have a1 : 0 ≤ (W : Int) * H := Int.mul_nonneg (by omega) (by omega)
    have hM : czM W H m = if cbB W H m = true then ((allM (W * H) m).filter (zrB W)).length else 0 := rfl
    have H1 := Lib.hid h1
    have H3 := Lib.hid h3
    clear h1 h3 hb
    cases e1 : cbB W H m with
    | false =>
      rw [e1] at h2 hM
      have H2 := Lib.hid h2
      have HM := Lib.hid hM
      clear h2 hM hs e1
      go_enter Try.func16, Try.ntmps16
      go_wp2_with fail
      refine (H1.out _).mono ?_
      rintro e w1 ⟨rfl, rfl⟩
      go_wp2_with fail
      refine (H2.out _).mono ?_
      rintro e w1 ⟨rfl, rfl⟩
      go_wp2_with fail
      go_ret2
      exact ⟨by rw [HM.out]; rfl, Below.refl _ _⟩
    | true =>
      rw [e1] at h2 hM
      have H2 := Lib.hid h2
      have HM := Lib.hid (hM.trans (if_pos rfl))
      have hll := allM_le (W * H) m hn12
      have HNU := Lib.hid (fun k (hk : k < (allM (W * H) m).length) c (hc : c < ((allM (W * H) m)[k]).length) w => boNumber_any W H ((allM (W * H) m)[k]) c w ⟨hW1, hW2⟩ hH2 (allM_len (List.getElem_mem hk)) hc)
      have HAS := Lib.hid (fun k (hk : k < (allM (W * H) m).length) c (hc : c < ((allM (W * H) m)[k]).length) => (allM_brd (List.getElem_mem hk)).asc (k := c) hc)
      have HXL := Lib.hid (fun k (hk : k < (allM (W * H) m).length) => allM_len (List.getElem_mem hk))
      have HFS := Lib.hid (fun k (hk : k < (allM (W * H) m).length) => filt_snoc (p := zrB W) (allM (W * H) m) hk)
      clear h2 hM hs e1
      generalize allM (W * H) m = A at *
      go_enter Try.func16, Try.ntmps16
      go_wp2_with fail
      refine (H1.out _).mono ?_
      rintro e w1 ⟨rfl, rfl⟩
      go_wp2_with fail
      refine (H2.out _).mono ?_
      rintro e w1 ⟨rfl, rfl⟩
      go_wp2_with fail
      refine (H3.out _).mono ?_
      rintro e w2 ⟨a2, c2, rfl, ho2, hb2⟩
      have HAT2 := Lib.hid ho2.at
      clear ho2
      go_wp2_with fail
      go_loopw [8, 30] (fun q i wr => ∃ k a : Nat, k ≤ A.length ∧ i = .int .i64 k ∧ q = .int .i64 a ∧ a ≤ k ∧ Hid (((A.take k).filter (zrB W)).length = a) ∧ Below w2.heap.size w2 wr) (fun _ i _ => A.length - (intOf i).toNat)
      case atStart => exact ⟨0, 0, Nat.zero_le _, rfl, rfl, Nat.le_refl _, rfl, Below.refl _ _⟩
      case round =>
        obtain ⟨k, a, hk, rfl, rfl, hak, hR, hb⟩ := hrel
        obtain ⟨wo, rfl⟩ : ∃ wo : World, wo = wr := ⟨_, rfl⟩
        have hbs := hb.size
        by_cases hlt : k < A.length
        · obtain ⟨g, o, hag, hc⟩ := txts_at (HAT2.out.later rfl hb) k hlt
          subst hag
          have HNk := Lib.hid (HNU.out k hlt)
          have HAk := Lib.hid (HAS.out k hlt)
          have hxl := HXL.out k hlt
          have hfs := HFS.out k hlt
          rw [hR.out] at hfs
          generalize A[k] = x at *
          have HFS2 := Lib.hid hfs
          have hx12 : x.length ≤ 12 := by omega
          have HZ0 : Hid (zrB W x = (List.range' 0 (x.length - 0)).any (zfB x W)) := by rw [Hid, zrB, anyR_zero]
          clear hfs hxl
          go_wp2_with fail
          have hI : (wo.iter ⟨x.toArray⟩ 0).heap[wo.heap.size]? = some (.stringIter ⟨x.toArray⟩ 0) := World.iter_heap wo _ _
          have hbi : Below wo.heap.size wo (wo.iter ⟨x.toArray⟩ 0) := (Below.refl _ _).alloc (Nat.le_refl _) _
          have hsi : wo.heap.size < (wo.iter ⟨x.toArray⟩ 0).heap.size := by simp [World.iter]
          generalize wo.iter ⟨x.toArray⟩ 0 = w6 at *
          generalize hII : wo.heap.size = I at *
          clear hII
          go_loopw [8] (fun q wr => ∃ j : Nat, j ≤ x.length ∧ q = .int .i64 a ∧ Hid (wr.heap[I]? = some (.stringIter ⟨x.toArray⟩ j)) ∧ Hid (zrB W x = (List.range' j (x.length - j)).any (zfB x W)) ∧ Below I w6 wr) (fun _ wr => x.length - wr.iterPos I)
          case atStart => exact ⟨0, Nat.zero_le _, rfl, hI, HZ0.out, Below.refl _ _⟩
          case round =>
            obtain ⟨j, hj, rfl, hIr, hZ, hbr⟩ := hrel
            have hIlt := block_lt hIr.out
            by_cases hltj : j < x.length
            · have hasc := HAk.out j hltj
              have hnx := fun ty => Lib.run_next_ascii_at (P := Try.prog) wr I ⟨x.toArray⟩ j ty hIr.out (by simpa [ByteArray.size] using hltj) (by simpa using hasc)
              have hpos := Lib.hid (iterPos_at hIr.out)
              have i1 := iterAt_at hIlt ⟨x.toArray⟩ (j + 1)
              have i2 := iterAt_below wr I ⟨x.toArray⟩ (j + 1)
              have HNj := Lib.hid (fun w => HNk.out j hltj w)
              have hgd : x.getD j 0 = x[j] := by simp [List.getD, hltj]
              have hst := anyR_step (zfB x W) hltj
              have hzf : zfB x W j = (!decide (x[j] = 42) && decide (numM x W j = 0)) := by rw [zfB, hgd]
              rw [hzf] at hst
              clear hasc hgd hzf
              by_cases h42 : x[j] = 42
              · have hd : ((x[j].toNat : Int) != 42) = false := by simp only [bne, is42]; simp [h42]
                have HZ2 : Hid (zrB W x = (List.range' (j + 1) (x.length - (j + 1))).any (zfB x W)) := by rw [Hid, hZ.out, hst, decide_eq_true h42]; rfl
                clear hst h42
                go_wp2_with fail
                clear hnx
                go_roundw
                case rel => exact ⟨j + 1, by omega, rfl, i1, HZ2, hbr.trans i2⟩
                case measure => rw [hpos.out, iterPos_at i1]; omega
              · have hd : ((x[j].toNat : Int) != 42) = true := by simp only [bne, is42]; simp [h42]
                by_cases hnu : numM x W j = 0
                · have HY : Hid (zrB W x = true) := by rw [Hid, hZ.out, hst, decide_eq_false h42, decide_eq_true hnu]; rfl
                  rw [hnu] at HNj
                  clear hst h42 hnu
                  go_wp2_with fail
                  clear hnx
                  generalize wr.iterAt I ⟨x.toArray⟩ (j + 1) = wi at *
                  refine (HNj.out _).mono ?_
                  rintro e w8 ⟨rfl, hb8⟩
                  have hIwi := block_lt i1
                  have hbr8 := hbr.trans (i2.trans (hb8.mono (by omega)))
                  have hbw : Below w2.heap.size w2 w8 := hb.trans ((hbi.trans hbr8).mono hbs)
                  have hfs := HFS2.out
                  rw [if_pos HY.out] at hfs
                  have HF := Lib.hid hfs
                  clear i1 i2 hfs hb8 hbr8
                  go_wp2_with fail
                  go_roundw
                  case rel => exact ⟨k + 1, a + 1, by omega, by go_num, by go_num, by omega, HF, hbw⟩
                  case measure => simp [intOf]; omega
                · have hd2 : ((numM x W j : Int) == 0) = false := by simp; omega
                  have HZ2 : Hid (zrB W x = (List.range' (j + 1) (x.length - (j + 1))).any (zfB x W)) := by rw [Hid, hZ.out, hst, decide_eq_false h42, decide_eq_false hnu]; rfl
                  clear hst h42 hnu
                  generalize numM x W j = nu at *
                  go_wp2_with fail
                  clear hnx
                  generalize wr.iterAt I ⟨x.toArray⟩ (j + 1) = wi at *
                  refine (HNj.out _).mono ?_
                  rintro e w8 ⟨rfl, hb8⟩
                  have hIwi := block_lt i1
                  have i5 := (hb8.block _ hIwi).trans i1
                  have ip := Lib.hid (iterPos_at i5)
                  have I5 := Lib.hid i5
                  have hbr8 := hbr.trans (i2.trans (hb8.mono (by omega)))
                  clear i1 i5 i2
                  go_wp2_with fail
                  go_roundw
                  case rel => exact ⟨j + 1, by omega, rfl, I5, HZ2, hbr8⟩
                  case measure => rw [hpos.out, ip.out]; omega
            · obtain rfl : j = x.length := by omega
              have hnx := fun ty => Lib.run_next_end_at (P := Try.prog) wr I ⟨x.toArray⟩ x.length ty hIr.out (by simp [ByteArray.size])
              have hbw : Below w2.heap.size w2 wr := hb.trans ((hbi.trans hbr).mono hbs)
              have HN : Hid (zrB W x = false) := by rw [Hid, hZ.out, Nat.sub_self]; rfl
              have hfs := HFS2.out
              rw [HN.out] at hfs
              have HF : Hid (((A.take (k + 1)).filter (zrB W)).length = a) := by rw [Hid, hfs]; rfl
              clear hfs hZ
              go_wp2_with fail
              go_roundw
              case rel => exact ⟨k + 1, a, by omega, by go_num, rfl, by omega, HF, hbw⟩
              case measure => simp [intOf]; omega
        · obtain rfl : k = A.length := by omega
          have hR2 := hR.out
          rw [List.take_length] at hR2
          have HR2 := Lib.hid hR2
          clear hR hR2
          go_wp2_with fail
          go_ret2
          exact ⟨by rw [HM.out, HR2.out]; rfl, hb2.trans (hb.mono hb2.size)⟩
end Go.Proofs.Ythlbplmghjaeoae
