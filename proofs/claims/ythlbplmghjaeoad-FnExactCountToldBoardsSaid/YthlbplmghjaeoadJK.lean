/- Counts by the model: boards that are told by their numbers. -/
import Derived.Test.YthlbplmghjaeoadJJ
import Derived.Outline
import Derived.WalkLawsBesides
namespace Go.Proofs.Ythlbplmghjaeoad
open Go.RowKit

theorem Owns.capJ {w : World} {B e : Nat} {a : Option Addr} {n cap : Nat} {xs : List Value} (h : Owns w B e (.slice a n cap) xs) : xs.length ≤ cap := by
  obtain ⟨_, h2⟩ := h
  rcases h2 with ⟨hv, h0⟩ | ⟨g, cap', cur, hv, _, _, hnc, _⟩
  · omega
  · simp at hv
    obtain ⟨_, _, rfl⟩ := hv
    omega

/-- Is a text of a sorted list another one than those beside it? -/
def uqB (S : List (List UInt8)) (i : Nat) : Bool := (decide (i = 0) || decide (S.getD (i - 1) [] ≠ S.getD i [])) && (decide (i + 1 = S.length) || decide (S.getD (i + 1) [] ≠ S.getD i []))
theorem sorted_le {S : List (List UInt8)} (h : S.Pairwise (fun a b => leT a b = true)) {i j : Nat} (hi : i < S.length) (hj : j < S.length) (hij : i ≤ j) : leT S[i] S[j] = true := by
  rcases Nat.lt_or_ge i j with h1 | h1
  · exact List.pairwise_iff_getElem.1 h i j hi hj h1
  · have : i = j := by omega
    subst this
    rw [leT_iff]
    exact .inr rfl
theorem uq_count {S : List (List UInt8)} (h : S.Pairwise (fun a b => leT a b = true)) {i : Nat} (hi : i < S.length) : uqB S i = decide (S.count S[i] = 1) := by
  have hgi : S.getD i [] = S[i] := by simp [List.getD, hi]
  have e : S = S.take i ++ S[i] :: S.drop (i + 1) := by rw [← List.drop_eq_getElem_cons hi, List.take_append_drop]
  have hc : S.count S[i] = (S.take i).count S[i] + (1 + (S.drop (i + 1)).count S[i]) := by
    have h0 := congrArg (List.count S[i]) e
    rw [List.count_append, List.count_cons] at h0
    simp at h0
    omega
  have h1 : (decide (i = 0) || decide (S.getD (i - 1) [] ≠ S.getD i [])) = decide ((S.take i).count S[i] = 0) := by
    rw [Bool.eq_iff_iff, Bool.or_eq_true, decide_eq_true_eq, decide_eq_true_eq, decide_eq_true_eq, List.count_eq_zero, hgi]
    constructor
    · intro hh hm
      obtain ⟨j, hj, hje⟩ := List.mem_iff_getElem.1 hm
      rw [List.length_take] at hj
      rw [List.getElem_take] at hje
      rcases hh with rfl | hh
      · omega
      · have hgp : S.getD (i - 1) [] = S[i - 1]'(by omega) := by simp [List.getD, show i - 1 < S.length by omega]
        rw [hgp] at hh
        apply hh
        have l1 := sorted_le h (i := j) (j := i - 1) (by omega) (by omega) (by omega)
        have l2 := sorted_le h (i := i - 1) (j := i) (by omega) (by omega) (by omega)
        rw [hje] at l1
        exact leT_anti l2 l1
    · intro hn
      by_cases h0 : i = 0
      · exact .inl h0
      · refine .inr fun he => hn ?_
        have hgp : S.getD (i - 1) [] = S[i - 1]'(by omega) := by simp [List.getD, show i - 1 < S.length by omega]
        rw [hgp] at he
        rw [← he]
        exact List.mem_iff_getElem.2 ⟨i - 1, by rw [List.length_take]; omega, by rw [List.getElem_take]⟩
  have h2 : (decide (i + 1 = S.length) || decide (S.getD (i + 1) [] ≠ S.getD i [])) = decide ((S.drop (i + 1)).count S[i] = 0) := by
    rw [Bool.eq_iff_iff, Bool.or_eq_true, decide_eq_true_eq, decide_eq_true_eq, decide_eq_true_eq, List.count_eq_zero, hgi]
    constructor
    · intro hh hm
      obtain ⟨j, hj, hje⟩ := List.mem_iff_getElem.1 hm
      rw [List.length_drop] at hj
      rw [List.getElem_drop] at hje
      rcases hh with hh | hh
      · omega
      · have hgp : S.getD (i + 1) [] = S[i + 1]'(by omega) := by simp [List.getD, show i + 1 < S.length by omega]
        rw [hgp] at hh
        apply hh
        have l1 := sorted_le h (i := i) (j := i + 1) (by omega) (by omega) (by omega)
        have l2 := sorted_le h (i := i + 1) (j := i + 1 + j) (by omega) (by omega) (by omega)
        rw [hje] at l2
        exact leT_anti l2 l1
    · intro hn
      by_cases h0 : i + 1 = S.length
      · exact .inl h0
      · refine .inr fun he => hn ?_
        have hgp : S.getD (i + 1) [] = S[i + 1]'(by omega) := by simp [List.getD, show i + 1 < S.length by omega]
        rw [hgp] at he
        rw [← he]
        exact List.mem_iff_getElem.2 ⟨0, by rw [List.length_drop]; omega, by simp [List.getElem_drop]⟩
  rw [uqB, h1, h2, hc, Bool.eq_iff_iff, Bool.and_eq_true, decide_eq_true_eq, decide_eq_true_eq, decide_eq_true_eq]
  omega
/-- How many of the first texts are so. -/
def uqK (S : List (List UInt8)) (k : Nat) : Nat := ((List.range k).filter (uqB S)).length
theorem uqK_snoc (S : List (List UInt8)) (k : Nat) : uqK S (k + 1) = uqK S k + if uqB S k = true then 1 else 0 := by
  rw [uqK, List.range_succ, List.filter_append, List.length_append, uqK]
  by_cases h : uqB S k = true <;> simp [h]
theorem uqK_le (S : List (List UInt8)) (k : Nat) : uqK S k ≤ k := Nat.le_trans (List.length_filter_le _ _) (by simp)
theorem uqK_take (S : List (List UInt8)) (h : S.Pairwise (fun a b => leT a b = true)) : ∀ k, k ≤ S.length → uqK S k = ((S.take k).filter fun x => decide (S.count x = 1)).length
  | 0, _ => rfl
  | k + 1, hk => by
    rw [uqK_snoc, uqK_take S h k (by omega), List.take_succ_eq_append_getElem (by omega), List.filter_append, List.length_append, uq_count h (show k < S.length by omega)]
    by_cases q : S.count S[k] = 1 <;> simp [q]
/-- How many texts of a list are there once. -/
def onceN (L : List (List UInt8)) : Nat := (L.filter fun x => decide (L.count x = 1)).length
theorem uqK_all (S N : List (List UInt8)) (h : S.Pairwise (fun a b => leT a b = true)) (hp : S.Perm N) : uqK S S.length = onceN N := by
  rw [uqK_take S h S.length (Nat.le_refl _), List.take_length, onceN]
  have e : (fun x => decide (S.count x = 1)) = fun x => decide (N.count x = 1) := by
    funext x; rw [hp.count_eq]
  rw [e]
  exact (hp.filter _).length_eq
/-- What CountToldBoards hands back. -/
def nmL (W : Nat) (L : List (List UInt8)) : List (List UInt8) := L.map fun c => nmT c W
def tdM (w h : Int) : Nat := if szB w h 12 = true then onceN (nmL w.toNat (allM (w.toNat * h.toNat) (-1))) else 0

theorem nmL_snoc (W : Nat) (A : List (List UInt8)) (k : Nat) (h : k < A.length) : nmL W (A.take (k + 1)) = nmL W (A.take k) ++ [nmT A[k] W] := by
  rw [nmL, List.take_succ_eq_append_getElem h, List.map_append]; rfl
theorem nmL_length (W : Nat) (A : List (List UInt8)) : (nmL W A).length = A.length := by simp [nmL]
theorem getD_at {S : List (List UInt8)} {k : Nat} (h : k < S.length) : S.getD k [] = S[k] := by simp [List.getD, h]

set_option maxHeartbeats 8000000 in
set_option maxRecDepth 4096 in
theorem sCountToldBoards_any (w h : Int) (ws : World) :
    Calls Try.prog 26 #[.int .i64 w, .int .i64 h] ws fun e w' => e = .returned (.tuple #[.int .i64 (tdM w h : Nat), .bool (szB w h 12)]) ∧ Below ws.heap.size ws w' := by
  have h1 := fun wr => ctSize_any w h 12 wr
  rcases sz_case w h 12 with hs | ⟨hs, W, H, rfl, rfl, hW1, hW2, hH1, hH2, hn⟩
  · rw [hs] at h1
    have HM : Hid (tdM w h = 0) := by rw [Hid, tdM, hs]; rfl
    rw [hs]
    have H1 := Lib.hid h1
    clear hs h1
    go_enter Try.func26, Try.ntmps26
    go_wp2_with fail
    refine (H1.out _).mono ?_
    rintro e w1 ⟨rfl, rfl⟩
    go_wp2_with fail
    go_ret2
    exact ⟨by rw [HM.out]; rfl, Below.refl _ _⟩
  · rw [hs] at h1
    have HM : Hid (tdM W H = onceN (nmL W (allM (W * H) (-1)))) := by rw [Hid, tdM, if_pos hs]; rfl
    rw [hs]
    have H1 := Lib.hid h1
    have hn12 : W * H ≤ 12 := by omega
    have h2 := fun wr => ctAll_any (W * H) (-1) hn12 wr
    rw [Int.natCast_mul] at hn h2
    have H2 := Lib.hid h2
    have a1 : 0 ≤ (W : Int) * H := Int.mul_nonneg (by omega) (by omega)
    have hll := allM_le (W * H) (-1) hn12
    have HNK := Lib.hid (fun k (hk : k < (allM (W * H) (-1)).length) wr => ctNumbers_any W H (allM (W * H) (-1))[k] ⟨hW1, hW2⟩ hH2 (allM_len (List.getElem_mem hk)) (allM_brd (List.getElem_mem hk)) wr)
    have HSN := Lib.hid (fun k hk => nmL_snoc W (allM (W * H) (-1)) k hk)
    have HLE := Lib.hid (fun k => nmL_length W ((allM (W * H) (-1)).take k))
    have HL := Lib.hid (nmL_length W (allM (W * H) (-1)))
    clear hs h1 h2
    generalize allM (W * H) (-1) = A at *
    go_enter Try.func26, Try.ntmps26
    go_wp2_with fail
    refine (H1.out _).mono ?_
    rintro e w1 ⟨rfl, rfl⟩
    go_wp2_with fail
    refine (H2.out _).mono ?_
    rintro e w2 ⟨a2, c2, rfl, ho2, hb2⟩
    have HAT2 := Lib.hid ho2.at
    clear ho2
    go_wp2_with fail
    go_loopw [6, 22] (fun v i wr => ∃ k : Nat, k ≤ A.length ∧ i = .int .i64 k ∧ Owns wr w2.heap.size 9 v (txts (nmL W (A.take k))) ∧ Below w2.heap.size w2 wr) (fun _ i _ => A.length - (intOf i).toNat)
    case atStart => exact ⟨0, Nat.zero_le _, rfl, Owns.nil _ _ _, Below.refl _ _⟩
    case round =>
      obtain ⟨k, hk, rfl, hown, hb⟩ := hrel
      have hbs := hb.size
      by_cases hlt : k < A.length
      · obtain ⟨g, o, hag, hc⟩ := txts_at (HAT2.out.later rfl hb) k hlt
        subst hag
        have HNk := Lib.hid (HNK.out k hlt)
        have HE : Hid (txts (nmL W (A.take (k + 1))) = txts (nmL W (A.take k)) ++ [.string ⟨(nmT A[k] W).toArray⟩]) := by rw [Hid, HSN.out k hlt]; simp [txts]
        have hsl : (nmL W (A.take k)).length ≤ 4096 := by rw [HLE.out, List.length_take]; omega
        generalize A[k] = x at *
        generalize nmT x W = nx at *
        go_wp2_with fail
        refine (HNk.out _).mono ?_
        rintro e w6 ⟨rfl, hb6⟩
        have hown6 := hown.later hb6
        have hb06 := hb.trans (hb6.mono hbs)
        have hbs6 := hb06.size
        clear hown hb hb6
        go_wp2_with (at_builtin; refine wpList_app1 rfl _ _ _ rfl _ _ _ _ elemStr _ _ _ _ rfl rfl rfl hown6 rfl (by simp; omega) hbs6 (by simp; omega) ?_; intro v1 w7 hown7 hb7 hs7)
        rw [← HE.out] at hown7
        go_roundw
        case rel => exact ⟨k + 1, by omega, by go_num, hown7, hb06.trans hb7⟩
        case measure => simp [intOf]; omega
      · obtain rfl : k = A.length := by omega
        rw [List.take_length] at hown
        have hNl : (nmL W A).length ≤ 4096 := by rw [HL.out]; exact hll
        obtain ⟨a3, c3, hv⟩ := hown.shape
        rw [hv] at hown
        have hcap := hown.capJ
        have hat3 := hown.at
        simp only [txts, List.length_map] at hv hcap
        subst hv
        have HSO := Lib.hid (ctSorted_any 12 (nmL W A) a3 c3 wr hat3 (by simpa using hNl) hNl hcap)
        have hp := srt_perm 12 (nmL W A)
        have HK := Lib.hid (uqK_all _ _ (srt_sorted 12 (nmL W A) (by simpa using hNl)) hp)
        have hSl : (srt 12 (nmL W A)).length ≤ 4096 := by rw [hp.length_eq]; exact hNl
        have hbb := hb2.trans (hb.mono hb2.size)
        clear hown hat3 hb hcap hp
        generalize srt 12 (nmL W A) = S at *
        go_wp2_with fail
        refine (HSO.out).mono ?_
        rintro e w3 ⟨a4, c4, rfl, hat4, hb3⟩
        have HAT4 := Lib.hid hat4
        have hb03 := hbb.trans (hb3.mono hbb.size)
        clear hat4 hb3 hbb
        go_wp2_with fail
        go_loop [10, 37] (fun n i => ∃ k : Nat, k ≤ S.length ∧ i = .int .i64 k ∧ n = .int .i64 (uqK S k : Nat)) (fun _ i => S.length - (intOf i).toNat)
        case atStart => exact ⟨0, Nat.zero_le _, rfl, rfl⟩
        case round =>
          obtain ⟨k, hk, rfl, rfl⟩ := hrel
          by_cases hlt : k < S.length
          · obtain ⟨g, o, hag, hc⟩ := txts_at HAT4.out k hlt
            subst hag
            have HU := Lib.hid (uqK_snoc S k)
            have hul := uqK_le S k
            have HQ : Hid (uqB S k = ((decide (k = 0) || decide (S.getD (k - 1) [] ≠ S[k])) && (decide (k + 1 = S.length) || decide (S.getD (k + 1) [] ≠ S[k])))) := by rw [Hid, uqB, getD_at hlt]
            by_cases h0 : k = 0
            · have hl0 : ((k : Int) == 0) = true := by simp; omega
              have hc0 : w3.cell? ⟨g, o, none⟩ = some (.string ⟨S[k].toArray⟩) := by rw [← hc, h0]; rfl
              have hL : Hid ((decide (k = 0) || decide (S.getD (k - 1) [] ≠ S[k])) = true) := by rw [Hid, decide_eq_true h0]; rfl
              by_cases hz : k + 1 = S.length
              · have hr0 : ((k : Int) == (S.length : Int) - 1) = true := by simp; omega
                have HT : Hid (uqB S k = true) := by rw [Hid, HQ.out, hL.out, decide_eq_true hz]; rfl
                have HV : Hid (((uqK S k : Nat) : Int) + 1 = ((uqK S (k + 1) : Nat) : Int)) := by rw [Hid, HU.out, HT.out]; simp
                clear HU HT HQ
                generalize S[k] = x at *
                generalize uqK S k = u at *
                go_wp2_with fail
                go_round
                case rel => first | exact ⟨k + 1, by omega, by go_num, by rw [← HV.out]⟩ | exact ⟨_, _, _, _, ⟨k + 1, by omega, by congr 1; omega, by rw [← HV.out]⟩, rfl, rfl, rfl, rfl⟩
                case measure => simp [intOf] <;> omega
              · have hr0 : ((k : Int) == (S.length : Int) - 1) = false := by simp; omega
                obtain ⟨q, hq⟩ : ∃ q : Nat, q = k + 1 := ⟨_, rfl⟩
                have hqi : (k : Int) + 1 = (q : Int) := by omega
                have hql : q < S.length := by omega
                obtain ⟨g2, o2, hag2, hcn⟩ := txts_at HAT4.out q hql
                simp only [Option.some.injEq, Addr.mk.injEq, and_true] at hag2
                obtain ⟨rfl, rfl⟩ := hag2
                have hcn1 : w3.cell? ⟨g, o + 1, none⟩ = some (.string ⟨S[q].toArray⟩) := by rw [← hcn, hq, h0]
                have hgq : S.getD (k + 1) [] = S[q] := by rw [← hq]; exact getD_at hql
                clear hq
                by_cases hne : S[q] = S[k]
                · have hd2 : (S[q] == S[k]) = true := by simpa using hne
                  have HT : Hid (uqB S k = false) := by rw [Hid, HQ.out, hgq, hne, decide_eq_false hz]; simp
                  clear hgq hne
                  generalize S[q] = y at *
                  have HV : Hid (uqK S (k + 1) = uqK S k) := by rw [Hid, HU.out, HT.out]; simp
                  clear HU HT HQ
                  generalize S[k] = x at *
                  generalize uqK S k = u at *
                  go_wp2_with fail
                  go_round
                  case rel => first | exact ⟨k + 1, by omega, by go_num, by rw [HV.out]⟩ | exact ⟨_, _, _, _, ⟨k + 1, by omega, by congr 1; omega, by rw [HV.out]⟩, rfl, rfl, rfl, rfl⟩
                  case measure => simp [intOf] <;> omega
                · have hd2 : (S[q] == S[k]) = false := by simpa using hne
                  have HT : Hid (uqB S k = true) := by rw [Hid, HQ.out, hL.out, hgq, decide_eq_true hne]; simp
                  clear hgq hne
                  generalize S[q] = y at *
                  have HV : Hid (((uqK S k : Nat) : Int) + 1 = ((uqK S (k + 1) : Nat) : Int)) := by rw [Hid, HU.out, HT.out]; simp
                  clear HU HT HQ
                  generalize S[k] = x at *
                  generalize uqK S k = u at *
                  go_wp2_with fail
                  go_round
                  case rel => first | exact ⟨k + 1, by omega, by go_num, by rw [← HV.out]⟩ | exact ⟨_, _, _, _, ⟨k + 1, by omega, by congr 1; omega, by rw [← HV.out]⟩, rfl, rfl, rfl, rfl⟩
                  case measure => simp [intOf] <;> omega
            · have hl0 : ((k : Int) == 0) = false := by simp; omega
              obtain ⟨p, hp⟩ : ∃ p : Nat, k = p + 1 := ⟨k - 1, by omega⟩
              have hpi : (k : Int) - 1 = (p : Int) := by omega
              have hpl : p < S.length := by omega
              obtain ⟨g1, o1, hag1, hcp⟩ := txts_at HAT4.out p hpl
              simp only [Option.some.injEq, Addr.mk.injEq, and_true] at hag1
              obtain ⟨rfl, rfl⟩ := hag1
              have hgp : S.getD (k - 1) [] = S[p] := by rw [show k - 1 = p by omega]; exact getD_at hpl
              clear hp
              by_cases hle : S[p] = S[k]
              · have hd1 : (S[p] == S[k]) = true := by simpa using hle
                have HT : Hid (uqB S k = false) := by rw [Hid, HQ.out, hgp, hle, decide_eq_false h0]; simp
                clear hgp hle
                generalize S[p] = z at *
                have HV : Hid (uqK S (k + 1) = uqK S k) := by rw [Hid, HU.out, HT.out]; simp
                clear HU HT HQ
                generalize S[k] = x at *
                generalize uqK S k = u at *
                go_wp2_with fail
                go_round
                case rel => first | exact ⟨k + 1, by omega, by go_num, by rw [HV.out]⟩ | exact ⟨_, _, _, _, ⟨k + 1, by omega, by congr 1; omega, by rw [HV.out]⟩, rfl, rfl, rfl, rfl⟩
                case measure => simp [intOf] <;> omega
              · have hd1 : (S[p] == S[k]) = false := by simpa using hle
                have hL : Hid ((decide (k = 0) || decide (S.getD (k - 1) [] ≠ S[k])) = true) := by rw [Hid, hgp, decide_eq_true hle]; simp
                clear hgp hle
                generalize S[p] = z at *
                by_cases hz : k + 1 = S.length
                · have hr0 : ((k : Int) == (S.length : Int) - 1) = true := by simp; omega
                  have HT : Hid (uqB S k = true) := by rw [Hid, HQ.out, hL.out, decide_eq_true hz]; rfl
                  have HV : Hid (((uqK S k : Nat) : Int) + 1 = ((uqK S (k + 1) : Nat) : Int)) := by rw [Hid, HU.out, HT.out]; simp
                  clear HU HT HQ
                  generalize S[k] = x at *
                  generalize uqK S k = u at *
                  go_wp2_with fail
                  go_round
                  case rel => first | exact ⟨k + 1, by omega, by go_num, by rw [← HV.out]⟩ | exact ⟨_, _, _, _, ⟨k + 1, by omega, by congr 1; omega, by rw [← HV.out]⟩, rfl, rfl, rfl, rfl⟩
                  case measure => simp [intOf] <;> omega
                · have hr0 : ((k : Int) == (S.length : Int) - 1) = false := by simp; omega
                  obtain ⟨q, hq⟩ : ∃ q : Nat, q = k + 1 := ⟨_, rfl⟩
                  have hqi : (k : Int) + 1 = (q : Int) := by omega
                  have hql : q < S.length := by omega
                  obtain ⟨g2, o2, hag2, hcn⟩ := txts_at HAT4.out q hql
                  simp only [Option.some.injEq, Addr.mk.injEq, and_true] at hag2
                  obtain ⟨rfl, rfl⟩ := hag2
                  have hgq : S.getD (k + 1) [] = S[q] := by rw [← hq]; exact getD_at hql
                  clear hq
                  by_cases hne : S[q] = S[k]
                  · have hd2 : (S[q] == S[k]) = true := by simpa using hne
                    have HT : Hid (uqB S k = false) := by rw [Hid, HQ.out, hgq, hne, decide_eq_false hz]; simp
                    clear hgq hne
                    generalize S[q] = y at *
                    have HV : Hid (uqK S (k + 1) = uqK S k) := by rw [Hid, HU.out, HT.out]; simp
                    clear HU HT HQ
                    generalize S[k] = x at *
                    generalize uqK S k = u at *
                    go_wp2_with fail
                    go_round
                    case rel => first | exact ⟨k + 1, by omega, by go_num, by rw [HV.out]⟩ | exact ⟨_, _, _, _, ⟨k + 1, by omega, by congr 1; omega, by rw [HV.out]⟩, rfl, rfl, rfl, rfl⟩
                    case measure => simp [intOf] <;> omega
                  · have hd2 : (S[q] == S[k]) = false := by simpa using hne
                    have HT : Hid (uqB S k = true) := by rw [Hid, HQ.out, hL.out, hgq, decide_eq_true hne]; simp
                    clear hgq hne
                    generalize S[q] = y at *
                    have HV : Hid (((uqK S k : Nat) : Int) + 1 = ((uqK S (k + 1) : Nat) : Int)) := by rw [Hid, HU.out, HT.out]; simp
                    clear HU HT HQ
                    generalize S[k] = x at *
                    generalize uqK S k = u at *
                    go_wp2_with fail
                    go_round
                    case rel => first | exact ⟨k + 1, by omega, by go_num, by rw [← HV.out]⟩ | exact ⟨_, _, _, _, ⟨k + 1, by omega, by congr 1; omega, by rw [← HV.out]⟩, rfl, rfl, rfl, rfl⟩
                    case measure => simp [intOf] <;> omega
          · obtain rfl : k = S.length := by omega
            go_wp2_with fail
            go_ret2
            exact ⟨by rw [HM.out, ← HK.out]; rfl, hb03⟩
end Go.Proofs.Ythlbplmghjaeoad
