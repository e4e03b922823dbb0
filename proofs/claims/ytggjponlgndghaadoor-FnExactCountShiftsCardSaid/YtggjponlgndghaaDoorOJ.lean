/- Joined boards by the program: shifts that leave a board as it is. -/
import Derived.Test.YtggjponlgndghaaDoorOF
import Derived.Test.YtggjponlgndghaaDoorGYB
import Derived.BigQuiet
namespace Go.Proofs.YtggjponlgndghaaDoor
open Go.RowKit

set_option maxRecDepth 100000 in
set_option maxHeartbeats 800000 in
/-- slices.Equal of two rows of bytes of the same length. -/
theorem equal_any (a1 a2 : Option Addr) (X Y : List UInt8) (n c1 c2 : Nat) (w : World) (h1 : At w a1 (byts X)) (h2 : At w a2 (byts Y)) (hx : X.length = n) (hy : Y.length = n) (h64 : n ≤ 64) :
    Calls Tryd.prog 71 #[.slice a1 n c1, .slice a2 n c2] w fun e w' => e = .returned (.bool (decide (X = Y))) ∧ Below w.heap.size w w' := by
  have HX := Lib.hid hx
  have HY := Lib.hid hy
  clear hx hy
  go_enter Tryd.func71, Tryd.ntmps71
  go_wp2_with fail
  go_loopw [13] (fun i wr => ∃ k : Nat, k ≤ n ∧ i = .int .i64 k ∧ Below w.heap.size w wr ∧ Hid (∀ j, (hj : j < k) → (h : j < X.length) → (h' : j < Y.length) → X[j] = Y[j])) (fun i _ => n - (intOf i).toNat)
  case atStart => exact ⟨0, Nat.zero_le _, rfl, Below.refl _ _, Lib.hid (fun j hj => absurd hj (by omega))⟩
  case round =>
    obtain ⟨k, hk, rfl, hb, hE⟩ := hrel
    by_cases hlt : k < n
    · obtain ⟨b1, o1, rfl, hc1⟩ := byts_at (h1.later rfl hb) k (by rw [HX.out]; exact hlt)
      obtain ⟨b2, o2, rfl, hc2⟩ := byts_at (h2.later rfl hb) k (by rw [HY.out]; exact hlt)
      by_cases he : X[k]'(by rw [HX.out]; exact hlt) = Y[k]'(by rw [HY.out]; exact hlt)
      · have hd : (((X[k]'(by rw [HX.out]; exact hlt)).toNat : Int) != ((Y[k]'(by rw [HY.out]; exact hlt)).toNat : Int)) = false := by rw [he]; simp
        have HE := Lib.hid he
        clear he
        go_wp2_with fail
        go_quiet (fail)
        generalize hwd : World.drewN _ _ = wd
        have hb2 : Below w.heap.size w wd := by rw [← hwd]; exact below_drewN hb _
        clear hwd
        go_wp2_with fail
        go_roundw
        case rel => exact ⟨k + 1, by omega, by go_num, hb2, Lib.hid (fun j hj h h' => by
          by_cases q : j = k
          · subst q; exact HE.out
          · exact hE.out j (by omega) h h')⟩
        case measure => simp [intOf]; omega
      · have hd : (((X[k]'(by rw [HX.out]; exact hlt)).toNat : Int) != ((Y[k]'(by rw [HY.out]; exact hlt)).toNat : Int)) = true := by
          simp only [bne_iff_ne, ne_eq, Int.natCast_inj]
          exact fun q => he (UInt8.toNat_inj.1 q)
        have HD : Hid (decide (X = Y) = false) := by
          rw [Hid, decide_eq_false_iff_not]
          intro q; subst q; exact he rfl
        clear he
        go_wp2_with fail
        go_quiet (fail)
        generalize hwd : World.drewN _ _ = wd
        have hb2 : Below w.heap.size w wd := by rw [← hwd]; exact below_drewN hb _
        clear hwd
        go_wp2_with fail
        go_ret
        exact ⟨by rw [HD.out]; rfl, hb2⟩
    · obtain rfl : k = n := by omega
      have HD : Hid (decide (X = Y) = true) := by
        rw [Hid, decide_eq_true_eq]
        exact List.ext_getElem (by rw [HX.out, HY.out]) (fun j h h' => hE.out j (by rw [HX.out] at h; exact h) h h')
      go_wp2_with fail
      go_ret
      exact ⟨by rw [HD.out]; rfl, hb⟩

/-- The shifts that keep a board, by right, then by down. -/
def kpD (W H : Nat) (cells : List UInt8) (r k : Nat) : List (List Nat) := ((List.range k).filter fun d => decide (shM W H r d cells = cells)).map fun d => [r, d]
def kpR (W H : Nat) (cells : List UInt8) (k : Nat) : List (List Nat) := ((List.range k).map fun r => kpD W H cells r H).flatten
def kpM (W H : Nat) (cells : List UInt8) : List (List Nat) := kpR W H cells W
theorem kpD_yes {W H : Nat} {cells : List UInt8} {r k : Nat} (h : shM W H r k cells = cells) : kpD W H cells r (k + 1) = kpD W H cells r k ++ [[r, k]] := by
  simp [kpD, List.range_succ, h]
theorem kpD_no {W H : Nat} {cells : List UInt8} {r k : Nat} (h : ¬ shM W H r k cells = cells) : kpD W H cells r (k + 1) = kpD W H cells r k := by
  simp [kpD, List.range_succ, h]
theorem kpR_succ (W H : Nat) (cells : List UInt8) (k : Nat) : kpR W H cells (k + 1) = kpR W H cells k ++ kpD W H cells k H := by
  simp [kpR, List.range_succ]
theorem kpD_le (W H : Nat) (cells : List UInt8) (r k : Nat) : (kpD W H cells r k).length ≤ k := by
  rw [kpD, List.length_map]
  exact Nat.le_trans (List.length_filter_le _ _) (by simp)
theorem kpR_le (W H : Nat) (cells : List UInt8) : ∀ k, (kpR W H cells k).length ≤ H * k
  | 0 => by simp [kpR]
  | k + 1 => by
    rw [kpR_succ, List.length_append, Nat.mul_succ]
    have := kpR_le W H cells k
    have := kpD_le W H cells k H
    omega
theorem kpM_row {W H : Nat} {cells : List UInt8} : ∀ x ∈ kpM W H cells, x.length ≤ 2 := by
  intro x hx
  simp only [kpM, kpR, List.mem_flatten, List.mem_map, kpD] at hx
  obtain ⟨y, ⟨r, _, rfl⟩, hx⟩ := hx
  obtain ⟨d, _, rfl⟩ := List.mem_map.1 hx
  simp
theorem Owns.two (w : World) (B e : Nat) (x y : Value) (hB : B ≤ w.heap.size) : Owns (w.alloc (.cells #[x, y] e)) B e (.slice (some ⟨w.heap.size, 0, none⟩) 2 2) [x, y] := by
  refine ⟨by simp, .inr ⟨w.heap.size, 2, #[x, y], by simp, hB, heap_alloc_new w _, by simp, by simp [maxLen], by simp, by simp⟩⟩

theorem field_signs (W H : Int) (a : Option Addr) (n c : Nat) (J : Bool) (w : World) : (Instr.field 43 (.agg #[.int .i64 W, .int .i64 H, .slice a n c, .bool J]) 2).run Tryd.prog w = .ok (.slice a n c) w := by
  simp [Instr.field, run_underlying Tryd.underlying43, part, Tryd.isAgg41, Tryd.sizeOf41, asAgg]
set_option maxRecDepth 100000 in
set_option maxHeartbeats 1600000 in
theorem shiftsKept_any (W H : Nat) (J : Bool) (a : Option Addr) (cells : List UInt8) (cap : Nat) (w : World) (hat : At w a (byts cells)) (hcap : cells.length ≤ cap) (hn : cells.length = W * H) (hW : 1 ≤ W ∧ W ≤ 8) (hH : 1 ≤ H ∧ H ≤ 8) :
    Calls Tryd.prog 52 #[.agg #[.int .i64 W, .int .i64 H, .slice a cells.length cap, .bool J]] w fun e w' => ∃ a' cap' us, e = .returned (.slice a' (kpM W H cells).length cap') ∧ us.length = (kpM W H cells).length ∧
      Fam w' w.heap.size ((.slice a' (kpM W H cells).length cap', 23, us) :: rowsF us (kpM W H cells)) ∧ Below w.heap.size w w' := by
  have hb0 : Below w.heap.size w (w.alloc (.cells #[.int .i64 W, .int .i64 H, .slice a cells.length cap, .bool J] 43)) := (Below.refl _ w).alloc (Nat.le_refl _) _
  have hG0 : (w.alloc (.cells #[.int .i64 W, .int .i64 H, .slice a cells.length cap, .bool J] 43)).heap[w.heap.size]? = some (.cells #[.int .i64 W, .int .i64 H, .slice a cells.length cap, .bool J] 43 (0, 0)) := heap_alloc_new w _
  have hs0 : (w.alloc (.cells #[.int .i64 W, .int .i64 H, .slice a cells.length cap, .bool J] 43)).heap.size = w.heap.size + 1 := by simp
  have h64 : cells.length ≤ 64 := by rw [hn]; exact Nat.mul_le_mul hW.2 hH.2
  have HSH := Lib.hid (fun r d w' h (hr : r ≤ 1000) (hd : d ≤ 1000) => shifted_any W H J a cells cap r d w' h hcap hn hW hH hr hd)
  have HEQ := Lib.hid (fun a2 c2 r d w' (h1 : At w' a2 (byts (shM W H r d cells))) h2 => equal_any a2 a (shM W H r d cells) cells cells.length c2 cap w' h1 h2 (by rw [shM_length hW.1 r d hn, hn]) rfl h64)
  have HKR := Lib.hid (kpR_le W H cells)
  have HKD := Lib.hid (kpD_le W H cells)
  have HKS := Lib.hid (kpR_succ W H cells)
  have HKM : Hid (kpM W H cells = kpR W H cells W) := rfl
  have HN := Lib.hid hn
  obtain ⟨hW1, hW8⟩ := hW
  obtain ⟨hH1, hH8⟩ := hH
  clear hn
  go_enter Tryd.func52, Tryd.ntmps52
  go_wp2_with fail
  generalize w.alloc (.cells #[.int .i64 W, .int .i64 H, .slice a cells.length cap, .bool J] 43) = w0 at *
  have hat0 := hat.later rfl hb0
  have HS0 := Lib.hid hs0
  have HG0 := Lib.hid hG0
  have HB0 := Lib.hid hb0
  clear hs0 hG0 hb0 hat
  go_loopw [3, 8] (fun v i wr => ∃ (k : Nat) (us : List Value) (acc : List (List Nat)), k ≤ W ∧ i = .int .i64 k ∧ Hid (acc = kpR W H cells k) ∧ us.length = acc.length ∧ acc.length ≤ 8 * k ∧ Fam wr w0.heap.size ((v, 23, us) :: rowsF us acc) ∧ Below w0.heap.size w0 wr) (fun _ i _ => W - (intOf i).toNat)
  case atStart => exact ⟨0, [], [], Nat.zero_le _, rfl, rfl, rfl, Nat.le_refl _, (Fam.empty _ _).nil, Below.refl _ _⟩
  case round =>
    obtain ⟨k, us, acc, hk, rfl, hA, hus, hal, hF, hb⟩ := hrel
    have hG := (hb.block w.heap.size (by have := HS0.out; omega)).trans HG0.out
    have hf0 := cell_of_block hG 0
    have hf1 := cell_of_block hG 1
    have hf2 := cell_of_block hG 2
    have hf3 := cell_of_block hG 3
    simp at hf0 hf1 hf2 hf3
    clear hG
    by_cases hlt : k < W
    · go_wp2_with fail
      go_loopw [3, 13] (fun v i wr => ∃ (q : Nat) (us : List Value) (acc : List (List Nat)), q ≤ H ∧ i = .int .i64 q ∧ Hid (acc = kpR W H cells k ++ kpD W H cells k q) ∧ us.length = acc.length ∧ acc.length ≤ 8 * k + q ∧ Fam wr w0.heap.size ((v, 23, us) :: rowsF us acc) ∧ Below w0.heap.size w0 wr) (fun _ i _ => H - (intOf i).toNat)
      case atStart => exact ⟨0, us, acc, Nat.zero_le _, rfl, by rw [Hid, hA.out]; simp [kpD], hus, by omega, hF, hb⟩
      case round =>
        clear hf0 hf1 hf2 hf3 hF hb hus hal hA
        obtain ⟨q, us, acc, hq, rfl, hA, hus, hal, hF, hb⟩ := hrel
        have hG := (hb.block w.heap.size (by have := HS0.out; omega)).trans HG0.out
        have hf0 := cell_of_block hG 0
        have hf1 := cell_of_block hG 1
        have hf2 := cell_of_block hG 2
        have hf3 := cell_of_block hG 3
        simp at hf0 hf1 hf2 hf3
        by_cases hqt : q < H
        · clear hG
          have HAT := Lib.hid hat0
          go_wp2_with fail
          have hd0 : Below wr.heap.size wr wr.drew := ⟨rfl, rfl, rfl, Nat.le_refl _, fun _ _ => rfl⟩
          have HD0 := Lib.hid hd0
          have hfs := fun (a2 : Option Addr) (c2 : Nat) (w2 : World) => field_signs (W : Int) (H : Int) a2 cells.length c2 J w2
          have HBD := Lib.hid (hb.trans (hd0.mono hb.size))
          have HSZ := Lib.hid HS0.out
          clear hd0
          go_region_law (first
            | (go_simp; go_at_call 49; refine (HSH.out k q _ (HAT.out.later rfl HBD.out) (by omega) (by omega)).mono ?_; rintro e w2 ⟨a2, c2, rfl, hat2, hc2, hb2⟩;
               have hg2 := (((HBD.out.trans (hb2.mono HBD.out.size)).block w.heap.size (by have := HS0.out; omega)).trans HG0.out); have hx2 := cell_of_block hg2 2; simp at hx2; clear hg2)
            | (go_simp; go_at_call 71; refine (HEQ.out a2 c2 k q w2 hat2 (HAT.out.later rfl (HBD.out.trans (hb2.mono HBD.out.size)))).mono ?_; rintro e w3 ⟨rfl, hb3⟩))
          all_goals
            have hb23 := hb2.trans (hb3.mono hb2.size)
            have hb02 := HBD.out.trans (hb23.mono HBD.out.size)
            have hF2 := hF.later (HD0.out.trans hb23)
            clear hb2 hb3 hb23 hat2 hx2 hf0 hf1 hf2 hf3 hF hc2
            have hs02 := hb02.size
            have HUS := Lib.hid hus
            have hus2 : us.length ≤ 72 := by omega
            clear hus
            cases hbv : decide (shM W H k q cells = cells) with
            | true =>
              have he := of_decide_eq_true hbv
              clear hbv
              have HE := Lib.hid (kpD_yes he)
              have hF7 := (hF2.fresh (e := 3) (((Below.refl _ w3).alloc (Nat.le_refl _) (.cells #[.int .i64 (k : Int), .int .i64 (q : Int)] 3))) (Owns.two w3 _ _ _ _ (Nat.le_refl _)) (by omega)).swap
              have hs4 : (w3.alloc (.cells #[.int .i64 (k : Int), .int .i64 (q : Int)] 3)).heap.size = w3.heap.size + 1 := by simp
              have hb4 : Below w0.heap.size w0 (w3.alloc (.cells #[.int .i64 (k : Int), .int .i64 (q : Int)] 3)) := hb02.alloc (by omega) _
              clear he hF2
              go_wp2_with (at_builtin; refine wpList_app1F rfl _ _ _ rfl w0.heap.size _ _ _ elemRow _ _ _ _ _ rfl rfl rfl hF7 (by rw [hs4]; rfl) (by omega) (by omega) (by omega) ?_; intro v8 w8 hF8 hb8 hs8)
              have hF9 := hF8.perm ((List.Perm.cons _ (List.perm_append_singleton _ _).symm))
              have e1 : rowsF us acc ++ [(.slice (some ⟨w3.heap.size, 0, none⟩) 2 2, 3, [.int .i64 (k : Int), .int .i64 (q : Int)])] = rowsF (us ++ [.slice (some ⟨w3.heap.size, 0, none⟩) 2 2]) (acc ++ [[k, q]]) := by
                rw [rowsF_snoc _ _ us _ (by rw [HUS.out])]
                rfl
              rw [e1] at hF9
              clear e1 hF8 hF7
              go_roundw
              case rel =>
                first
                  | exact ⟨q + 1, _, acc ++ [[k, q]], by omega, by go_num, by rw [Hid, hA.out, HE.out, List.append_assoc], by simp [HUS.out], by simp; omega, hF9, hb4.trans hb8⟩
                  | ((repeat apply Exists.intro); exact ⟨⟨q + 1, _, acc ++ [[k, q]], by omega, by go_num, by rw [Hid, hA.out, HE.out, List.append_assoc], by simp [HUS.out], by simp; omega, hF9, hb4.trans hb8⟩, rfl⟩)
              case measure => simp [intOf]; omega
            | false =>
              have he := of_decide_eq_false hbv
              clear hbv
              have HE := Lib.hid (kpD_no he)
              clear he
              go_wp2_with fail
              go_roundw
              case rel => exact ⟨q + 1, us, acc, by omega, by go_num, by rw [Hid, hA.out, HE.out], HUS.out, by omega, hF2, hb02⟩
              case measure => simp [intOf]; omega
        · obtain rfl : q = H := by omega
          clear hG
          go_wp2_with fail
          go_roundw
          case rel =>
            first
              | exact ⟨k + 1, us, acc, by omega, by go_num, by rw [Hid, hA.out, HKS.out], hus, by omega, hF, hb⟩
              | ((repeat apply Exists.intro); exact ⟨⟨k + 1, us, acc, by omega, by go_num, by rw [Hid, hA.out, HKS.out], hus, by omega, hF, hb⟩, rfl⟩)
          case measure => simp [intOf]; omega
    · obtain rfl : k = W := by omega
      obtain ⟨av, cv, hv⟩ := hF.head.shape
      subst hv
      have HUS := Lib.hid hus
      clear hus
      go_wp2_with fail
      go_ret
      have hul : us.length = (kpM k H cells).length := by rw [HUS.out, hA.out]; rfl
      refine ⟨av, cv, us, by rw [← hul]; rfl, hul, ?_, HB0.out.trans (hb.mono (by have := HS0.out; omega))⟩
      rw [← hul, HKM.out, ← hA.out]
      exact hF.mono (by have := HS0.out; omega)
end Go.Proofs.YtggjponlgndghaaDoor
