/- Joined boards: ShiftsKept, by the model and by the program. -/
import Derived.Test.YtggjponlgndghaaDoorOJ
import Derived.Test.YtggjponlgndghaaDoorOI
namespace Go.Proofs.YtggjponlgndghaaDoor
open Go.RowKit

def ksOf (l : List UInt8) : List (List Nat) := if joB l = true then kpM (gW l) (gH l) (gCells l) else []
theorem ksOf_row (l : List UInt8) : ∀ x ∈ ksOf l, x.length ≤ 2 := by
  unfold ksOf
  split
  · exact kpM_row
  · simp
theorem ksOf_len (l : List UInt8) : (ksOf l).length ≤ 64 := by
  unfold ksOf
  split
  · exact Nat.le_trans (kpR_le _ _ _ _) (Nat.mul_le_mul (gH_le l) (gW_le l))
  · simp
theorem kpM_pos {W H : Nat} {cells : List UInt8} (hW : 1 ≤ W) (hH : 1 ≤ H) : 1 ≤ (kpM W H cells).length := by
  have h : [0, 0] ∈ kpM W H cells := by
    simp only [kpM, kpR, List.mem_flatten, List.mem_map]
    refine ⟨kpD W H cells 0 H, ⟨0, List.mem_range.2 hW, rfl⟩, ?_⟩
    simp only [kpD, List.mem_map, List.mem_filter, List.mem_range]
    exact ⟨0, ⟨by omega, by simp [shM, itM]⟩, rfl⟩
  exact List.length_pos_of_mem h

/- A text of rows that is cut and joined again is the text. -/
theorem kTail_split : ∀ (l cur : List UInt8), Lib.joinTail [47] (splitGo 47 cur l) = 47 :: (cur ++ l)
  | [], cur => by simp [splitGo, Lib.joinTail]
  | c :: r, cur => by
    unfold splitGo
    by_cases h : c = 47
    · have e : Lib.joinTail [47] (cur :: splitGo 47 [] r) = 47 :: (cur ++ Lib.joinTail [47] (splitGo 47 [] r)) := by simp [Lib.joinTail]
      rw [if_pos h, e, kTail_split r [], h]
      simp
    · rw [if_neg h, kTail_split r (cur ++ [c])]
      simp
theorem kjoin_split (l : List UInt8) : Lib.join (splitB 47 l) [47] = l := by
  have h := kTail_split l []
  have hpos := splitB_pos 47 l
  unfold splitB at hpos ⊢
  cases hs : splitGo 47 [] l with
  | nil => rw [hs] at hpos; simp at hpos
  | cons x r =>
    rw [hs] at h
    have e : Lib.joinTail [47] (x :: r) = 47 :: (x ++ Lib.joinTail [47] r) := by simp [Lib.joinTail]
    rw [e] at h
    rw [Lib.join_cons]
    simpa using h
theorem krows_flats (W : Nat) : ∀ rows : List (List UInt8), (∀ r ∈ rows, r.length = W) → rowsM rows.flatten W rows.length = rows
  | [], _ => rfl
  | r :: rows, h => by
    have hr : r.length = W := h r List.mem_cons_self
    subst hr
    rw [List.flatten_cons, List.length_cons, rowsM, List.take_left, List.drop_left, krows_flats _ rows (fun x hx => h x (List.mem_cons_of_mem _ hx))]
theorem board_text {l : List UInt8} (h : boGoodM l = true) : textM (gCells l) (gW l) (gH l) = l := by
  obtain ⟨f1, f2, f3, f4, f5, f6, f7, f8⟩ := readM_facts h
  obtain ⟨g1, g2, g3⟩ := (Brd.of h).grid
  have h2 := krows_flats _ (splitB 47 l) ((allLen_iff _ _).1 f1)
  rw [g1, g2, g3, textM, ← splitB_flatten, h2, kjoin_split]
theorem brGo_inj (W : Nat) : ∀ (x y : List UInt8) (k : Nat), x.length = y.length → brGo W k x = brGo W k y → x = y
  | [], [], _, _, _ => rfl
  | [], _ :: _, _, h, _ => by simp at h
  | _ :: _, [], _, h, _ => by simp at h
  | c :: r, d :: s, k, h, e => by
    simp only [List.length_cons, Nat.add_right_cancel_iff] at h
    unfold brGo at e
    split at e
    · simp only [List.cons_append, List.nil_append, List.cons.injEq, true_and] at e
      rw [e.1, brGo_inj W r s (k + 1) h e.2]
    · simp only [List.nil_append, List.cons.injEq] at e
      rw [e.1, brGo_inj W r s (k + 1) h e.2]
theorem text_inj {W H : Nat} (hW : 1 ≤ W) {x y : List UInt8} (hx : x.length = W * H) (hy : y.length = W * H) (h : textM x W H = textM y W H) : x = y := by
  rw [← brGo_text W H hW x hx, ← brGo_text W H hW y hy] at h
  exact brGo_inj W x y 0 (by omega) h

set_option maxRecDepth 100000 in
set_option maxHeartbeats 1600000 in
theorem joKept_any (l : List UInt8) (w : World) (hl : l.length ≤ 1048576) (hj : joB l = true) :
    Calls Tryd.prog 51 #[.string ⟨l.toArray⟩] w fun e w' => ∃ a' cap' us, e = .returned (.slice a' (ksOf l).length cap') ∧ us.length = (ksOf l).length ∧
      Fam w' w.heap.size ((.slice a' (ksOf l).length cap', 23, us) :: rowsF us (ksOf l)) ∧ Below w.heap.size w w' := by
  have hB := Brd.g (joB_good hj)
  have hz := joB_sizes hj
  have HS := Lib.hid (fun w => boSize_any l w hl)
  rw [hB.size] at HS
  have hW8 := hB.w8
  have hH8 := hB.h8
  have HSH : Hid (∀ (r d : Nat) (w : World), r < gW l → d < gH l → Calls Tryd.prog 48 #[.string ⟨l.toArray⟩, .int .i64 r, .int .i64 d] w fun e w' => e = .returned (.string ⟨(textM (shM (gW l) (gH l) r d (gCells l)) (gW l) (gH l)).toArray⟩) ∧ Below w.heap.size w w') := fun r d w hr hd => by
    have := joShift_any l r d w hl hj hr hd
    rw [shM_eq ⟨hz.1, hB.w8⟩ ⟨hz.2, hB.h8⟩ hB.len hr hd] at this
    exact this
  have HTE : Hid (∀ r d, (textM (shM (gW l) (gH l) r d (gCells l)) (gW l) (gH l) = l) ↔ shM (gW l) (gH l) r d (gCells l) = gCells l) := fun r d => by
    constructor
    · intro h
      have ht := board_text hB.good
      rw [← ht] at h
      simp only [ht] at h
      refine text_inj hB.w1 (shM_length hB.w1 r d hB.len) hB.len ?_
      rw [ht]; exact h
    · intro h; rw [h]; exact board_text hB.good
  have HKR := Lib.hid (kpR_le (gW l) (gH l) (gCells l))
  have HKD := Lib.hid (kpD_le (gW l) (gH l) (gCells l))
  have HKS := Lib.hid (kpR_succ (gW l) (gH l) (gCells l))
  have HKM : Hid (ksOf l = kpR (gW l) (gH l) (gCells l) (gW l)) := by rw [Hid, ksOf, if_pos hj]; rfl
  have HTL : Hid (∀ r d, (textM (shM (gW l) (gH l) r d (gCells l)) (gW l) (gH l)).length ≤ 72) := fun r d => textM_le _ _ _ hW8 hH8
  clear hj hB
  generalize gW l = W at *
  generalize gH l = H at *
  generalize gCells l = cells at *
  go_enter Tryd.func51, Tryd.ntmps51
  go_wp2_with fail
  refine (HS.out _).mono ?_
  rintro e w0 ⟨rfl, hb0⟩
  have s0 := hb0.size
  go_wp2_with fail
  go_loopw [5, 6] (fun v i wr => ∃ (k : Nat) (us : List Value) (acc : List (List Nat)), k ≤ W ∧ i = .int .i64 k ∧ Hid (acc = kpR W H cells k) ∧ us.length = acc.length ∧ acc.length ≤ 8 * k ∧ Fam wr w0.heap.size ((v, 23, us) :: rowsF us acc) ∧ Below w0.heap.size w0 wr) (fun _ i _ => W - (intOf i).toNat)
  case atStart => exact ⟨0, [], [], Nat.zero_le _, rfl, rfl, rfl, Nat.le_refl _, (Fam.empty _ _).nil, Below.refl _ _⟩
  case round =>
    obtain ⟨k, us, acc, hk, rfl, hA, hus, hal, hF, hb⟩ := hrel
    by_cases hlt : k < W
    · go_wp2_with fail
      go_loopw [5, 7] (fun v i wr => ∃ (q : Nat) (us : List Value) (acc : List (List Nat)), q ≤ H ∧ i = .int .i64 q ∧ Hid (acc = kpR W H cells k ++ kpD W H cells k q) ∧ us.length = acc.length ∧ acc.length ≤ 8 * k + q ∧ Fam wr w0.heap.size ((v, 23, us) :: rowsF us acc) ∧ Below w0.heap.size w0 wr) (fun _ i _ => H - (intOf i).toNat)
      case atStart => exact ⟨0, us, acc, Nat.zero_le _, rfl, by rw [Hid, hA.out]; simp [kpD], hus, by omega, hF, hb⟩
      case round =>
        clear hF hb hus hal hA
        obtain ⟨q, us, acc, hq, rfl, hA, hus, hal, hF, hb⟩ := hrel
        have HUS := Lib.hid hus
        have hus2 : us.length ≤ 72 := by omega
        clear hus
        by_cases hqt : q < H
        · have hT := HTE.out k q
          have HC := Lib.hid (fun w => HSH.out k q w hlt hqt)
          generalize textM (shM W H k q cells) W H = T at *
          go_wp2_with fail
          refine (HC.out _).mono ?_
          rintro e w3 ⟨rfl, hb3⟩
          have hb02 := hb.trans (hb3.mono hb.size)
          have hF2 := hF.later hb3
          have hs02 := hb02.size
          clear hF hb3
          cases hbv : (T == l) with
          | true =>
            have he := hT.1 (beq_iff_eq.1 hbv)
            have HE := Lib.hid (kpD_yes he)
            have hF7 := (hF2.fresh (e := 3) (((Below.refl _ w3).alloc (Nat.le_refl _) (.cells #[.int .i64 (k : Int), .int .i64 (q : Int)] 3))) (Owns.two w3 _ _ _ _ (Nat.le_refl _)) (by omega)).swap
            have hs4 : (w3.alloc (.cells #[.int .i64 (k : Int), .int .i64 (q : Int)] 3)).heap.size = w3.heap.size + 1 := by simp
            have hb4 : Below w0.heap.size w0 (w3.alloc (.cells #[.int .i64 (k : Int), .int .i64 (q : Int)] 3)) := hb02.alloc (by omega) _
            clear he hF2 hT
            go_wp2_with (at_builtin; refine wpList_app1F rfl _ _ _ rfl w0.heap.size _ _ _ elemRow _ _ _ _ _ rfl rfl rfl hF7 (by rw [hs4]; rfl) (by omega) (by omega) (by omega) ?_; intro v8 w8 hF8 hb8 hs8)
            have hF9 := hF8.perm ((List.Perm.cons _ (List.perm_append_singleton _ _).symm))
            have e1 : rowsF us acc ++ [(.slice (some ⟨w3.heap.size, 0, none⟩) 2 2, 3, [.int .i64 (k : Int), .int .i64 (q : Int)])] = rowsF (us ++ [.slice (some ⟨w3.heap.size, 0, none⟩) 2 2]) (acc ++ [[k, q]]) := by
              rw [rowsF_snoc _ _ us _ (by rw [HUS.out])]
              rfl
            rw [e1] at hF9
            clear e1 hF8 hF7
            go_roundw
            case rel =>
              first
                | exact ⟨q + 1, _, acc ++ [[k, q]], by omega, by go_num, by rw [Hid, hA.out, HE.out, List.append_assoc], by simp [HUS.out], by simp; omega, hF9, hb4.trans hb8⟩
                | ((repeat apply Exists.intro); exact ⟨⟨q + 1, _, acc ++ [[k, q]], by omega, by go_num, by rw [Hid, hA.out, HE.out, List.append_assoc], by simp [HUS.out], by simp; omega, hF9, hb4.trans hb8⟩, rfl⟩)
            case measure => simp [intOf]; omega
          | false =>
            have he : ¬ shM W H k q cells = cells := fun h => by
              have := hT.2 h
              rw [beq_eq_false_iff_ne] at hbv
              exact hbv this
            have HE := Lib.hid (kpD_no he)
            clear he hT
            go_wp2_with fail
            go_roundw
            case rel => exact ⟨q + 1, us, acc, by omega, by go_num, by rw [Hid, hA.out, HE.out], HUS.out, by omega, hF2, hb02⟩
            case measure => simp [intOf]; omega
        · obtain rfl : q = H := by omega
          go_wp2_with fail
          go_roundw
          case rel =>
            first
              | exact ⟨k + 1, us, acc, by omega, by go_num, by rw [Hid, hA.out, HKS.out], HUS.out, by omega, hF, hb⟩
              | ((repeat apply Exists.intro); exact ⟨⟨k + 1, us, acc, by omega, by go_num, by rw [Hid, hA.out, HKS.out], HUS.out, by omega, hF, hb⟩, rfl⟩)
          case measure => simp [intOf]; omega
    · obtain rfl : k = W := by omega
      obtain ⟨av, cv, hv⟩ := hF.head.shape
      subst hv
      have HUS := Lib.hid hus
      clear hus
      go_wp2_with fail
      go_ret
      have hul : us.length = (ksOf l).length := by rw [HUS.out, hA.out, HKM.out]
      refine ⟨av, cv, us, by rw [← hul]; rfl, hul, ?_, hb0.trans (hb.mono s0)⟩
      rw [← hul, HKM.out, ← hA.out]
      exact hF.mono s0
end Go.Proofs.YtggjponlgndghaaDoor
