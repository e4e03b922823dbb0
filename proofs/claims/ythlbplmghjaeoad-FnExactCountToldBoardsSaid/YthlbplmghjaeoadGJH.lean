/- JH, JI, laid as one text. -/
import Derived.Test.YthlbplmghjaeoadJG
import Derived.Test.YthlbplmghjaeoadGYB
import Derived.Laws.OwnMore
import Derived.Outline

/- Counts by the model: all sums. -/
namespace Go.Proofs.Ythlbplmghjaeoad
open Go.RowKit

/-- How many boards have a sum. -/
def cntA (W : Nat) (L : List (List UInt8)) (s : Nat) : Nat := (L.filter fun c => decide (sumGo c W 0 c.length = s)).length
def cntL (W : Nat) (L : List (List UInt8)) : List Nat := (List.range 501).map (cntA W L)
@[simp] theorem cntL_length (W : Nat) (L : List (List UInt8)) : (cntL W L).length = 501 := by simp [cntL]
theorem cntL_get (W : Nat) (L : List (List UInt8)) (s : Nat) (h : s < (cntL W L).length) : (cntL W L)[s] = cntA W L s := by simp [cntL]
theorem cntA_snoc (W : Nat) (L : List (List UInt8)) (k : Nat) (hk : k < L.length) (s : Nat) : cntA W (L.take (k + 1)) s = cntA W (L.take k) s + if sumGo L[k] W 0 L[k].length = s then 1 else 0 := by
  rw [cntA, filt_snoc L hk, cntA]
  by_cases h : sumGo L[k] W 0 L[k].length = s <;> simp [h]
theorem cntL_step (W : Nat) (L : List (List UInt8)) (k : Nat) (hk : k < L.length) : (cntL W (L.take k)).set (sumGo L[k] W 0 L[k].length) (cntA W (L.take k) (sumGo L[k] W 0 L[k].length) + 1) = cntL W (L.take (k + 1)) := by
  refine List.ext_getElem (by simp) fun i h1 h2 => ?_
  rw [cntL_get, cntA_snoc W L k hk, List.getElem_set]
  split
  · rename_i h; subst h; simp
  · rw [cntL_get]; rfl
theorem cntL_nil (W : Nat) : cntL W [] = List.replicate 501 0 := by
  refine List.ext_getElem (by rw [cntL_length, List.length_replicate]) fun i h1 h2 => ?_
  rw [cntL_get, List.getElem_replicate]; rfl
theorem nats_set (L : List Nat) (i v : Nat) : (nats L).set i (.int .i64 ((v : Int) + 1)) = nats (L.set i (v + 1)) := by
  rw [nats, nats, ints, ints, List.map_map, List.map_map, List.map_set]; rfl
theorem cntA_le (W : Nat) (L : List (List UInt8)) (s : Nat) : cntA W L s ≤ L.length := List.length_filter_le _ _
/-- All sums that a board has, each with how many have it. -/
def smK (W : Nat) (L : List (List UInt8)) (k : Nat) : List (List Nat) := ((List.range k).filter fun s => decide (0 < cntA W L s)).map fun s => [s, cntA W L s]
theorem smK_snoc (W : Nat) (L : List (List UInt8)) (k : Nat) : smK W L (k + 1) = smK W L k ++ if 0 < cntA W L k then [[k, cntA W L k]] else [] := by
  rw [smK, List.range_succ, List.filter_append, List.map_append, smK]
  by_cases h : 0 < cntA W L k <;> simp [h]
theorem smK_le (W : Nat) (L : List (List UInt8)) (k : Nat) : (smK W L k).length ≤ k := by
  rw [smK, List.length_map]
  refine Nat.le_trans (List.length_filter_le _ _) ?_
  simp
def smR (W H : Nat) : List (List Nat) := smK W (allM (W * H) (-1)) 501

theorem away_setJ {w : World} {g b : Nat} (h : b ≠ g) (j : Nat) (v : Value) : (w.setCell ⟨g, j, none⟩ v).heap[b]? = w.heap[b]? := by
  simp [World.setCell, Array.getElem?_modify, Ne.symm h]
set_option maxRecDepth 100000 in
set_option maxHeartbeats 3200000 in
theorem ctSums_any (W H : Nat) (hW1 : 1 ≤ W) (hW2 : W ≤ 8) (hH2 : H ≤ 8) (hn12 : W * H ≤ 12) (w : World) :
    Calls Try.prog 32 #[.int .i64 W, .int .i64 H] w fun e w' => ∃ a cap us, e = .returned (.slice a (smR W H).length cap) ∧ us.length = (smR W H).length ∧ Fam w' w.heap.size ((.slice a (smR W H).length cap, 39, us) :: rowsF us (smR W H)) ∧ Below w.heap.size w w' := by
  have h2 := fun wr => ctAll_any (W * H) (-1) hn12 wr
  have hn : ((W * H : Nat) : Int) ≤ 12 := by omega
  rw [Int.natCast_mul] at hn h2
  have H2 := Lib.hid h2
  have a1 : 0 ≤ (W : Int) * H := Int.mul_nonneg (by omega) (by omega)
  have hll := allM_le (W * H) (-1) hn12
  have HCS := Lib.hid (fun k (hk : k < (allM (W * H) (-1)).length) wr => ctSum_any W H ((allM (W * H) (-1))[k]) ⟨hW1, hW2⟩ hH2 (allM_len (List.getElem_mem hk)) (allM_brd (List.getElem_mem hk)) wr)
  have HSL := Lib.hid (fun k (hk : k < (allM (W * H) (-1)).length) => show sumGo ((allM (W * H) (-1))[k]) W 0 ((allM (W * H) (-1))[k]).length ≤ 12 * 12 from Nat.le_trans (sumGo_le _ W _ 0) (Nat.mul_le_mul (by rw [allM_len (List.getElem_mem hk)]; exact hn12) (by rw [allM_len (List.getElem_mem hk)]; exact hn12)))
  have HM : Hid (smR W H = smK W (allM (W * H) (-1)) 501) := rfl
  have HST := Lib.hid (fun k hk => cntL_step W (allM (W * H) (-1)) k hk)
  have HCA := Lib.hid (fun k s => Nat.le_trans (cntA_le W ((allM (W * H) (-1)).take k) s) (show ((allM (W * H) (-1)).take k).length ≤ 4096 by rw [List.length_take]; omega))
  have HCF := Lib.hid (fun s => Nat.le_trans (cntA_le W (allM (W * H) (-1)) s) hll)
  have HSN := Lib.hid (fun k => smK_snoc W (allM (W * H) (-1)) k)
  have HSK := Lib.hid (fun k => smK_le W (allM (W * H) (-1)) k)
  have HS0 : Hid (smK W (allM (W * H) (-1)) 0 = []) := rfl
  obtain ⟨i, hi, hz, hsz, hby⟩ := elemInt.info
  obtain ⟨w1, hmk, ho1, hg1⟩ := run_make_full (P := Try.prog) w w.heap.size 39 3 i (.int .i64 0) 1 elemInt.und hi hz hsz .i64 .i64 501 (by rw [hby]; decide) (by decide) (Nat.le_refl _)
  have hmk : (Instr.makeSlice 39 (.int .i64 501) (.int .i64 501)).run Try.prog w = .ok (.slice (some ⟨w.heap.size, 0, none⟩) 501 501) w1 := hmk
  have hb1 : Below w.heap.size w w1 := (Below.refl _ _).grown hg1 (Nat.le_refl _) (fun k hk => by cases hk)
  have ho1 : Owns w1 w.heap.size 3 (.slice (some ⟨w.heap.size, 0, none⟩) 501 501) (nats (cntL W ((allM (W * H) (-1)).take 0))) := by
    have e : (madeCells (Value.int .i64 0).cells (501 * 1)).toList = nats (cntL W ((allM (W * H) (-1)).take 0)) := by
      rw [List.take_zero, cntL_nil]
      exact (toList_madeCells_one _ _).trans (by simp [nats, ints])
    rw [e] at ho1
    unfold Owns
    rw [nats_length, cntL_length]
    exact ho1
  clear h2 hi hz hsz hby hg1
  generalize allM (W * H) (-1) = A at *
  generalize hgg : w.heap.size = g at *
  have HGG := Lib.hid hgg
  clear hgg
  have hg1 : g < w1.heap.size := (ho1.lt g rfl).2
  go_enter Try.func32, Try.ntmps32
  go_wp2_with fail
  refine (H2.out _).mono ?_
  rintro e w2 ⟨a2, c2, rfl, ho2, hb2⟩
  have hb02 := hb1.trans (hb2.mono (by omega))
  have ho12 := ho1.later hb2
  have hs2 := hb2.size
  clear ho1 hb1 hb2 hmk
  go_wp2_with fail
  go_loopw [17] (fun i wr => ∃ k : Nat, k ≤ A.length ∧ i = .int .i64 k ∧ Owns wr g 3 (.slice (some ⟨g, 0, none⟩) 501 501) (nats (cntL W (A.take k))) ∧ Owns wr w1.heap.size 9 (.slice a2 A.length c2) (txts A) ∧ Below g w wr) (fun i _ => A.length - (intOf i).toNat)
  case atStart => exact ⟨0, Nat.zero_le _, rfl, ho12, ho2, hb02⟩
  case round =>
    clear ho2 ho12 hb02
    obtain ⟨k, hk, rfl, hoc, hoA, hb⟩ := hrel
    have hbs := hb.size
    by_cases hlt : k < A.length
    · obtain ⟨gA, oA, hag, hc⟩ := txts_at hoA.at k hlt
      subst hag
      have HCk := Lib.hid (HCS.out k hlt)
      have hsl := HSL.out k hlt
      have HSTk := Lib.hid (HST.out k hlt)
      have hca := HCA.out k (sumGo A[k] W 0 A[k].length)
      have hgl : g < wr.heap.size := (hoc.lt g rfl).2
      generalize A[k] = x at *
      generalize sumGo x W 0 x.length = sx at *
      go_wp2_with fail
      refine (HCk.out _).mono ?_
      rintro e w5 ⟨rfl, hb5⟩
      have hoc5 := hoc.later hb5
      have hoA5 := hoA.later hb5
      have hb05 := hb.trans (hb5.mono (by omega))
      have hlen : sx < (cntL W (A.take k)).length := by rw [cntL_length]; omega
      obtain ⟨g', o', he, hcs⟩ := nats_at hoc5.at sx hlen
      simp only [Option.some.injEq, Addr.mk.injEq, and_true] at he
      obtain ⟨rfl, rfl⟩ := he
      rw [cntL_get] at hcs
      simp only [Nat.zero_add] at hcs
      have hfr := World.ownsRow.frozenAt (n := (nats (cntL W (A.take k))).length) (cap := 501) (by
        have e : (nats (cntL W (A.take k))).length = 501 := by rw [nats_length, cntL_length]
        have := hoc5; unfold Owns at this; rw [e] at this ⊢; exact this) sx
      have hst := hoc5.store sx (.int .i64 ((cntA W (A.take k) sx : Int) + 1))
      have e2 : (nats (cntL W (A.take k))).set sx (.int .i64 ((cntA W (A.take k) sx : Int) + 1)) = nats (cntL W (A.take (k + 1))) := by
        rw [← HSTk.out, nats_set]
      rw [e2] at hst
      have hoA6 := hoA5.heapOf (w' := w5.setCell ⟨g, sx, none⟩ (.int .i64 ((cntA W (A.take k) sx : Int) + 1))) (fun j hj => away_setJ (by have := (hoA5.lt j hj).1; omega) _ _)
      have hb06 : Below g w (w5.setCell ⟨g, sx, none⟩ (.int .i64 ((cntA W (A.take k) sx : Int) + 1))) := hb05.trans ((Below.set sx _).mono (Nat.le_refl _))
      have hsx : (sx : Int) < 501 := by omega
      clear e2 hoc hoA hb5 hoc5 hoA5 hb05 hb
      generalize cntA W (A.take k) sx = ca at *
      go_wp2_with fail
      go_roundw
      case rel => exact ⟨k + 1, by omega, by go_num, hst, hoA6, hb06⟩
      case measure => simp [intOf]; omega
    · obtain rfl : k = A.length := by omega
      rw [List.take_length] at hoc
      have HAT := Lib.hid hoc.at
      obtain ⟨wo, rfl⟩ : ∃ wo : World, wo = wr := ⟨_, rfl⟩
      have hgl : g ≤ wo.heap.size := by have := (hoc.lt g rfl).2; omega
      clear hoA hoc
      go_wp2_with fail
      go_loopw [8, 32] (fun v i wr => ∃ (k : Nat) (us : List Value), k ≤ 501 ∧ i = .int .i64 k ∧ us.length = (smK W A k).length ∧ Fam wr wo.heap.size ((v, 39, us) :: rowsF us (smK W A k)) ∧ Below wo.heap.size wo wr) (fun _ i _ => 501 - (intOf i).toNat)
      case atStart => exact ⟨0, [], Nat.zero_le _, rfl, rfl, (Fam.empty _ _).nil, Below.refl _ _⟩
      case round =>
        obtain ⟨k, us, hk, rfl, hus, hF, hbr⟩ := hrel
        have HUS := Lib.hid hus
        have hskl := HSK.out k
        have hus' : us.length ≤ k := by omega
        have sr := hbr.size
        clear hus
        by_cases hltk : k < 501
        · have hlen : k < (cntL W A).length := by rw [cntL_length]; exact hltk
          obtain ⟨g', o', he, hcs⟩ := nats_at (HAT.out.later rfl hbr) k hlen
          simp only [Option.some.injEq, Addr.mk.injEq, and_true] at he
          obtain ⟨rfl, rfl⟩ := he
          rw [cntL_get] at hcs
          simp only [Nat.zero_add] at hcs
          have hsn := HSN.out k
          have hca := HCF.out k
          generalize cntA W A k = ca at *
          have hk5 : (k : Int) < 501 := by omega
          by_cases hpos : 0 < ca
          · rw [if_pos hpos] at hsn
            have HS := Lib.hid hsn
            have hb1 : Below wr.heap.size wr (wr.alloc (.cells #[.int .i64 (k : Int), .int .i64 (ca : Int)] 3)) := (Below.refl _ _).alloc (Nat.le_refl _) _
            have hF2 := (hF.fresh hb1 (Owns.two wr wr.heap.size 3 (.int .i64 (k : Int)) (.int .i64 (ca : Int)) (Nat.le_refl _)) sr).swap
            have hsr2 : wo.heap.size ≤ (wr.alloc (.cells #[.int .i64 (k : Int), .int .i64 (ca : Int)] 3)).heap.size := Nat.le_trans sr hb1.size
            have hb01 := hbr.trans (hb1.mono sr)
            clear hsn hF
            have hx8 : Value.slice (some ⟨wr.heap.size + 1, 0, none⟩) 1 1 = Value.slice (some ⟨(wr.alloc (.cells #[.int .i64 (k : Int), .int .i64 (ca : Int)] 3)).heap.size, 0, none⟩) 1 1 := by rw [World.size_alloc]
            have HX8 := Lib.hid hx8
            clear hx8
            go_wp2_with (at_builtin; refine wpList_app1F rfl _ _ _ rfl wo.heap.size _ _ _ elemRow _ _ _ _ _ rfl rfl rfl hF2 HX8.out (by omega) hsr2 (by omega) ?_; intro v8 w8 hF8 hb8 hs8)
            have hF9 := hF8.perm ((List.Perm.cons _ (List.perm_append_singleton _ _).symm))
            have e1 : rowsF us (smK W A k) ++ [(.slice (some ⟨wr.heap.size, 0, none⟩) 2 2, 3, [.int .i64 (k : Int), .int .i64 (ca : Int)])] = rowsF (us ++ [.slice (some ⟨wr.heap.size, 0, none⟩) 2 2]) (smK W A (k + 1)) := by
              rw [HS.out]
              exact (rowsF_snoc _ [k, ca] us (smK W A k) HUS.out).symm
            rw [e1] at hF9
            clear e1 hF8 hF2
            go_roundw
            case rel =>
              first
                | exact ⟨k + 1, _, by omega, by go_num, by rw [HS.out]; simp [HUS.out], hF9, hb01.trans hb8⟩
                | ((repeat apply Exists.intro); exact ⟨⟨k + 1, _, by omega, by go_num, by rw [HS.out]; simp [HUS.out], hF9, hb01.trans hb8⟩, rfl⟩)
            case measure => simp [intOf]; omega
          · rw [if_neg hpos, List.append_nil] at hsn
            have HS := Lib.hid hsn
            clear hsn
            go_wp2_with fail
            go_roundw
            case rel => exact ⟨k + 1, us, by omega, by go_num, by rw [HS.out]; exact HUS.out, by rw [HS.out]; exact hF, hbr⟩
            case measure => simp [intOf]; omega
        · obtain rfl : k = 501 := by omega
          go_wp2_with fail
          go_ret
          obtain ⟨a, cap, hv⟩ := hF.head.shape
          rw [HUS.out] at hv
          have hF2 := hF.mono hgl
          rw [hv] at hF2
          exact ⟨a, cap, us, by rw [HM.out, ← hv]; rfl, by rw [HM.out]; exact HUS.out, by rw [HM.out]; exact hF2, hb.trans (hbr.mono hgl)⟩
end Go.Proofs.Ythlbplmghjaeoad

/- Counts by the model: how many boards have a sum. -/
namespace Go.Proofs.Ythlbplmghjaeoad
open Go.RowKit

/-- What SumCounts hands back. -/
def scM (w h : Int) : List (List Nat) := if szB w h 12 = true then smR w.toNat h.toNat else []
theorem scM_len (w h : Int) : (scM w h).length ≤ 1048576 := by
  rw [scM]
  split
  · exact Nat.le_trans (smK_le _ _ _) (by decide)
  · simp
theorem scM_rows (w h : Int) : ∀ r ∈ scM w h, r.length ≤ 1048576 := by
  intro r hr
  rw [scM] at hr
  split at hr
  · rw [smR, smK, List.mem_map] at hr
    obtain ⟨s, _, rfl⟩ := hr
    simp
  · simp at hr
/-- What CountWithSum hands back. -/
def cwB (w h s : Int) : Bool := szB w h 12 && inB s 0 500
def cwM (w h s : Int) : Nat := if cwB w h s = true then cntA w.toNat (allM (w.toNat * h.toNat) (-1)) s.toNat else 0

set_option maxRecDepth 100000 in
theorem sSumCounts_any (w h : Int) (ws : World) :
    Calls Try.prog 13 #[.int .i64 w, .int .i64 h] ws fun e w' => ∃ a cap us, e = .returned (.tuple #[.slice a (scM w h).length cap, .bool (szB w h 12)]) ∧ us.length = (scM w h).length ∧
      Fam w' ws.heap.size ((.slice a (scM w h).length cap, 39, us) :: rowsF us (scM w h)) ∧ Below ws.heap.size ws w' := by
  have h1 := fun wr => ctSize_any w h 12 wr
  rcases sz_case w h 12 with hs | ⟨hs, W, H, rfl, rfl, hW1, hW2, hH1, hH2, hn⟩
  · rw [hs] at h1
    have HM : Hid (scM w h = []) := by rw [Hid, scM, hs]; rfl
    rw [hs]
    have H1 := Lib.hid h1
    clear hs h1
    go_enter Try.func13, Try.ntmps13
    go_wp2_with fail
    refine (H1.out _).mono ?_
    rintro e w1 ⟨rfl, rfl⟩
    go_wp2_with fail
    go_ret2
    exact ⟨none, 0, [], by rw [HM.out]; rfl, by rw [HM.out]; rfl, by rw [HM.out]; exact (Fam.empty _ _).nil, Below.refl _ _⟩
  · rw [hs] at h1
    have HM : Hid (scM W H = smR W H) := by rw [Hid, scM, if_pos hs]; rfl
    rw [hs]
    have H1 := Lib.hid h1
    have HS := Lib.hid (fun wr => ctSums_any W H hW1 hW2 hH2 (by omega) wr)
    clear hs h1
    rw [← HM.out] at HS
    go_enter Try.func13, Try.ntmps13
    go_wp2_with fail
    refine (H1.out _).mono ?_
    rintro e w1 ⟨rfl, rfl⟩
    go_wp2_with fail
    refine (HS.out _).mono ?_
    rintro e w2 ⟨a, cap, us, rfl, hus, hF, hb⟩
    have HUS := Lib.hid hus
    clear hus
    go_wp2_with fail
    go_ret2
    exact ⟨a, cap, us, rfl, HUS.out, hF, hb⟩

theorem smK_mem {W : Nat} {L : List (List UInt8)} {n : Nat} {x : List Nat} (h : x ∈ smK W L n) : ∃ s, s < n ∧ 0 < cntA W L s ∧ x = [s, cntA W L s] := by
  rw [smK] at h
  obtain ⟨s, hs, he⟩ := List.mem_map.1 h
  obtain ⟨h1, h2⟩ := List.mem_filter.1 hs
  exact ⟨s, List.mem_range.1 h1, of_decide_eq_true h2, he.symm⟩
theorem smK_get (W : Nat) (L : List (List UInt8)) (k : Nat) (h : k < (smK W L 501).length) : ∃ s, s ≤ 500 ∧ 0 < cntA W L s ∧ (smK W L 501)[k] = [s, cntA W L s] := by
  obtain ⟨s, h1, h2, h3⟩ := smK_mem (List.getElem_mem h)
  exact ⟨s, Nat.le_of_lt_succ h1, h2, h3⟩
theorem smK_in (W : Nat) (L : List (List UInt8)) (n s : Nat) (hs : s < n) (h : 0 < cntA W L s) : [s, cntA W L s] ∈ smK W L n := by
  rw [smK]
  exact List.mem_map.2 ⟨s, List.mem_filter.2 ⟨List.mem_range.2 hs, decide_eq_true h⟩, rfl⟩
theorem smK_has (W : Nat) (L : List (List UInt8)) (s : Nat) (hs : s ≤ 500) (h : 0 < cntA W L s) : ∃ k, ∃ hk : k < (smK W L 501).length, (smK W L 501)[k] = [s, cntA W L s] :=
  List.mem_iff_getElem.1 (smK_in W L 501 s (Nat.lt_succ_of_le hs) h)

set_option maxRecDepth 100000 in
set_option maxHeartbeats 1600000 in
theorem sCountWithSum_any (w h s : Int) (ws : World) :
    Calls Try.prog 11 #[.int .i64 w, .int .i64 h, .int .i64 s] ws fun e w' => e = .returned (.tuple #[.int .i64 (cwM w h s : Nat), .bool (cwB w h s)]) ∧ Below ws.heap.size ws w' := by
  have h1 := fun wr => ctSize_any w h 12 wr
  have h2 := fun wr => l1In_any s 0 500 wr
  rcases sz_case w h 12 with hs | ⟨hs, W, H, rfl, rfl, hW1, hW2, hH1, hH2, hn⟩
  · have hb : cwB w h s = false := by rw [cwB, hs]; rfl
    rw [hs] at h1
    have HM : Hid (cwM w h s = 0) := by rw [Hid, cwM, hb]; rfl
    rw [hb]
    have H1 := Lib.hid h1
    clear hs h1 hb h2
    go_enter Try.func11, Try.ntmps11
    go_wp2_with fail
    refine (H1.out _).mono ?_
    rintro e w1 ⟨rfl, rfl⟩
    go_wp2_with fail
    go_ret2
    exact ⟨by rw [HM.out]; rfl, Below.refl _ _⟩
  · have hb : cwB W H s = inB s 0 500 := by rw [cwB, hs, Bool.true_and]
    rw [hs] at h1
    have hM : cwM W H s = if cwB W H s = true then cntA W (allM (W * H) (-1)) s.toNat else 0 := rfl
    have H1 := Lib.hid h1
    clear h1 hs
    cases e1 : inB s 0 500 with
    | false =>
      rw [e1] at h2 hb
      have HB := Lib.hid hb
      rw [hb] at hM
      have H2 := Lib.hid h2
      have HM := Lib.hid hM
      clear h2 hM hb e1
      go_enter Try.func11, Try.ntmps11
      go_wp2_with fail
      refine (H1.out _).mono ?_
      rintro e w1 ⟨rfl, rfl⟩
      go_wp2_with fail
      refine (H2.out _).mono ?_
      rintro e w1 ⟨rfl, rfl⟩
      go_wp2_with fail
      go_ret2
      exact ⟨by rw [HM.out, HB.out]; rfl, Below.refl _ _⟩
    | true =>
      rw [e1] at h2 hb
      obtain ⟨b1, b2⟩ := inB_iff.1 e1
      obtain ⟨q, rfl⟩ : ∃ q : Nat, s = q := ⟨s.toNat, by omega⟩
      have HB := Lib.hid hb
      rw [hb] at hM
      replace hM : cwM W H q = cntA W (allM (W * H) (-1)) q := hM.trans (if_pos rfl)
      have H2 := Lib.hid h2
      have HM := Lib.hid hM
      have HS := Lib.hid (fun wr => ctSums_any W H hW1 hW2 hH2 (by omega) wr)
      have HR : Hid (smR W H = smK W (allM (W * H) (-1)) 501) := rfl
      have hrl := smK_le W (allM (W * H) (-1)) 501
      have HG := Lib.hid (fun k hk => smK_get W (allM (W * H) (-1)) k hk)
      have HH := Lib.hid (fun s hs h => smK_has W (allM (W * H) (-1)) s hs h)
      have HCL := Lib.hid (fun s => Nat.le_trans (cntA_le W (allM (W * H) (-1)) s) (allM_le (W * H) (-1) (by omega)))
      rw [HR.out] at HS
      generalize smK W (allM (W * H) (-1)) 501 = R at *
      generalize cntA W (allM (W * H) (-1)) = cnt at *
      clear h2 hM hb e1
      go_enter Try.func11, Try.ntmps11
      go_wp2_with fail
      refine (H1.out _).mono ?_
      rintro e w1 ⟨rfl, rfl⟩
      go_wp2_with fail
      refine (H2.out _).mono ?_
      rintro e w1 ⟨rfl, rfl⟩
      go_wp2_with fail
      refine (HS.out _).mono ?_
      rintro e w2 ⟨a, cap, us, rfl, hus, hF, hb⟩
      have HUS := Lib.hid hus
      have HAT := Lib.hid hF.head.at
      have HF := Lib.hid hF
      clear hus hF
      go_wp2_with fail
      go_loop [23] (fun i => ∃ k : Nat, k ≤ R.length ∧ i = .int .i64 k ∧ Hid (∀ j (hj : j < R.length), j < k → R[j] ≠ [q, cnt q])) (fun i => R.length - (intOf i).toNat)
      case atStart => exact ⟨0, Nat.zero_le _, rfl, fun j hj h0 => absurd h0 (Nat.not_lt_zero _)⟩
      case round =>
        obtain ⟨k, hk, rfl, hN⟩ := hrel
        by_cases hlt : k < R.length
        · have hku : k < us.length := by rw [HUS.out]; exact hlt
          have hrow := HF.out.own _ (List.mem_cons_of_mem _ (rowsF_mem us R k hku hlt))
          obtain ⟨s, hs5, hsp, hRk⟩ := HG.out k hlt
          obtain ⟨g, o, hag, hc⟩ := HAT.out k hku
          simp only at hrow
          rw [hRk] at hrow
          obtain ⟨ar, cr, hv⟩ := hrow.shape
          rw [hv] at hrow hc
          obtain ⟨gr, or, hagr, hc0⟩ := hrow.at 0 (by simp)
          obtain ⟨gr', or', hagr', hc1⟩ := hrow.at 1 (by simp)
          subst hag
          subst hagr
          simp only [Option.some.injEq, Addr.mk.injEq, and_true] at hagr'
          obtain ⟨rfl, rfl⟩ := hagr'
          replace hc0 : w2.cell? ⟨gr, or, none⟩ = some (.int .i64 s) := hc0
          replace hc1 : w2.cell? ⟨gr, or + 1, none⟩ = some (.int .i64 (cnt s)) := hc1
          replace hc : w2.cell? ⟨g, o + k, none⟩ = some (.slice (some ⟨gr, or, none⟩) 2 cr) := hc
          have hcl := HCL.out s
          clear hrow hv
          by_cases hsq : s = q
          · subst hsq
            have hd : ((s : Int) == (s : Int)) = true := by simp
            clear hRk hN
            go_wp2_with fail
            go_ret2
            exact ⟨by rw [HM.out, HB.out]; rfl, hb⟩
          · have hd : ((s : Int) == (q : Int)) = false := by simp; omega
            have HN2 : Hid (∀ j (hj : j < R.length), j < k + 1 → R[j] ≠ [q, cnt q]) := by
              intro j hj hjk
              rcases Nat.lt_succ_iff_lt_or_eq.1 hjk with h | h
              · exact hN.out j hj h
              · subst h
                rw [hRk]
                intro e
                exact hsq (List.cons.inj e).1
            clear hRk hN hsq
            go_wp2_with fail
            go_round
            case rel => exact ⟨k + 1, by omega, by go_num, HN2⟩
            case measure => simp [intOf] <;> omega
        · obtain rfl : k = R.length := by omega
          have HZ : Hid (cnt q = 0) := by
            rcases Nat.eq_zero_or_pos (cnt q) with h | h
            · exact h
            · obtain ⟨j, hj, he⟩ := HH.out q (by omega) h
              exact absurd he (hN.out j hj hj)
          clear hN
          go_wp2_with fail
          go_ret2
          exact ⟨by rw [HM.out, HB.out, HZ.out]; rfl, hb⟩
end Go.Proofs.Ythlbplmghjaeoad
