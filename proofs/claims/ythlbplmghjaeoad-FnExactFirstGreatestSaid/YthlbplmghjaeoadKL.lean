/- FirstGreatest by the program. -/
import Derived.Test.YthlbplmghjaeoadKG
import Derived.Test.YthlbplmghjaeoadKJ
import Derived.Test.YthlbplmghjaeoadK2
import Derived.Outline
namespace Go.Proofs.Ythlbplmghjaeoad
open Go.RowKit

/-- The place of the first board with the greatest sum, and its cells. -/
theorem fg_index (W H : Nat) (hW : 1 ≤ W ∧ W ≤ 8) (hH : 1 ≤ H ∧ H ≤ 8) (h12 : W * H ≤ 12) :
    ∃ j, ∃ hj : j < (listGo W (W * H) (W * H)).length, (listGo W (W * H) (W * H)).findIdx (fun x => (x.sms : Int) == gsM W H) = j ∧ ((listGo W (W * H) (W * H))[j].1.take (W * H)) = (fgL W (allM (W * H) (-1))).1 ∧ (∃ x ∈ listGo W (W * H) (W * H), ((x.sms : Int) == gsM W H) = true) := by
  obtain ⟨h1, h2, h3⟩ := sums_top W H hW hH h12
  have hf := fg_first W (topG W H) (allM (W * H) (-1)) [] (-1) (by omega) h1 h2
  have hA : ∀ c ∈ allM (W * H) (-1), (((preB W (W * H) c).sms : Int) == gsM W H) = decide (sumGo c W 0 c.length = topG W H) := fun c hc => by
    rw [pre_sums W H hW.2 hH.2 h12 c (allM_len hc) (allM_brd hc), ← h3, Bool.eq_iff_iff]
    simp; omega
  rw [List.find?_eq_some_iff_getElem] at hf
  obtain ⟨g1, j, hj, g2, g3⟩ := hf
  rw [listGo_all W (W * H) h12]
  have hj' : j < ((allM (W * H) (-1)).map (preB W (W * H))).length := by rw [List.length_map]; exact hj
  refine ⟨j, hj', ?_, ?_, ?_⟩
  · refine (List.findIdx_eq hj').2 ⟨?_, fun i hi => ?_⟩
    · rw [List.getElem_map, hA _ (List.getElem_mem hj), g2]; exact g1
    · rw [List.getElem_map, hA _ (List.getElem_mem _)]
      have := g3 i hi
      simpa using this
  · rw [List.getElem_map]
    have hl : (allM (W * H) (-1))[j].length = W * H := allM_len (List.getElem_mem hj)
    show (preP W (W * H) _).take (W * H) = _
    refine Eq.trans ?_ g2
    refine List.ext_getElem (by rw [List.length_take, preP_length]; omega) fun k k1 k2 => ?_
    have hk : k < W * H := by omega
    have e1 := preP_sign W (W * H) (allM (W * H) (-1))[j] k (by omega)
    rw [List.getElem_take]
    have l1 : k < (preP W (W * H) (allM (W * H) (-1))[j]).length := by rw [preP_length]; omega
    simpa [List.getD, l1, k2] using e1
  · obtain ⟨c, hc, e⟩ := h2
    exact ⟨_, List.mem_map_of_mem hc, by rw [hA c hc]; simpa using e⟩

set_option maxRecDepth 100000 in
set_option maxHeartbeats 3200000 in
theorem iFirstGreatest_any (w h : Int) (ws : World) :
    Calls Try.prog 25 #[.int .i64 w, .int .i64 h] ws fun e w' => e = .returned (.tuple #[.string ⟨(fgM w h).toArray⟩, .bool (szB w h 12)]) ∧ Below ws.heap.size ws w' := by
  have h1 := fun wr => isSmall_any w h wr
  rcases sz_case w h 12 with hs | ⟨hs, W, H, rfl, rfl, hW1, hW2, hH1, hH2, hn⟩
  · have HM : Hid (fgM w h = []) := by rw [Hid, fgM, hs]; rfl
    rw [hs] at h1 ⊢
    have H1 := Lib.hid h1
    clear hs h1
    go_enter Try.func25, Try.ntmps25
    go_wp2_with fail
    refine (H1.out _).mono ?_
    rintro e w1 ⟨rfl, rfl⟩
    go_wp2_with fail
    go_ret2
    exact ⟨by rw [HM.out]; rfl, Below.refl _ _⟩
  · have h12 : W * H ≤ 12 := by omega
    have HM : Hid (fgM W H = textM (fgL W (allM (W * H) (-1))).1 W H) := by rw [Hid, fgM, if_pos hs]; rfl
    obtain ⟨j, hj, f1, f2, f3⟩ := fg_index W H ⟨hW1, hW2⟩ ⟨hH1, hH2⟩ h12
    have HLB := Lib.hid (listBoards_any W H ⟨hW1, hW2⟩ ⟨hH1, hH2⟩ h12)
    have HGS := Lib.hid (greatest_any W H ⟨hW1, hW2⟩ ⟨hH1, hH2⟩)
    have HTX := Lib.hid (lbText_any (listGo W (W * H) (W * H))[j] W H _ f2.symm ⟨hW1, hW2⟩ ⟨hH1, hH2⟩ h12)
    have hlen : (listGo W (W * H) (W * H)).length ≤ 4096 := by rw [listGo_length W _ _ h12]; exact Nat.pow_le_pow_right (by decide) h12
    have eg : ∀ args w, (callFunc 57 args).run Try.prog w = .ok (.enter 57 args) w := enters_of Try.func57 (by kernel_rfl) rfl
    have HIX := Lib.hid (fun B L v w hL hO hex hf => idxB_any (fun x => (x.sms : Int) == gsM W H) 57 #[.pointer (some ⟨B, 0, none⟩)] L v ws.heap.size w hL hO hex eg hf)
    rw [hs] at h1 ⊢
    have H1 := Lib.hid h1
    clear hs h1 f2 eg hn
    generalize gsM W H = G at *
    generalize listGo W (W * H) (W * H) = L at *
    have hrd : ∀ w' v, OwnsB w' ws.heap.size v L → ∃ g cap cur, v = .slice (some ⟨g, 0, none⟩) L.length cap ∧ ws.heap.size ≤ g ∧ g < w'.heap.size ∧ w'.heap[g]? = some (.cells cur 46 (0, 0)) ∧ L.length ≤ cap ∧ cur.size = cap * 24 ∧ ∀ j (hj : j < L.length), w'.rangeAt g (j * 24) (encB L[j]) := fun w' v hO => hO.open (by omega)
    have HRD := Lib.hid hrd
    clear hrd
    generalize hxx : L[j] = xj at *
    have HXX := Lib.hid hxx
    clear hxx
    generalize W * H = n at *
    generalize textM _ _ _ = TX at *
    go_enter Try.func25, Try.ntmps25
    go_wp2_with fail
    refine (H1.out _).mono ?_
    rintro e w1 ⟨rfl, rfl⟩
    go_wp2_with fail
    refine (HLB.out _).mono ?_
    rintro e w1 ⟨v, rfl, hO, hb1⟩
    go_wp2_with fail
    refine (HGS.out _).mono ?_
    rintro e w2 ⟨rfl, hb2⟩
    go_wp2_with fail
    have hc3 : (w2.alloc (.cells #[.int .i64 G] 3)).cell? ⟨w2.heap.size, 0, none⟩ = some (.int .i64 G) := by simp
    have hb3 : Below ws.heap.size ws (w2.alloc (.cells #[.int .i64 G] 3)) := (hb1.trans (hb2.mono hb1.size)).alloc (hb1.trans (hb2.mono hb1.size)).size _
    have hO3 := (hO.later hb2).later ((Below.refl _ _).alloc (Nat.le_refl _) (.cells #[.int .i64 G] 3))
    refine (HIX.out w2.heap.size L v _ (by omega) hO3 f3 (fun x W hW => fgClosure_any x G w2.heap.size W ((hW.cell (p := ⟨w2.heap.size, 0, none⟩) (by simp)).trans hc3))).mono ?_
    rintro e w4 ⟨rfl, hb4⟩
    rw [f1]
    have hO4 := hO3.later hb4
    have hb4' : Below ws.heap.size ws w4 := hb3.trans (hb4.mono hb3.size)
    obtain ⟨g, cap, cur, hv, hg1, hg2, hgb, hgc, hgs, hgr⟩ := HRD.out w4 v hO4
    have hrj := hgr j hj
    rw [HXX.out] at hrj
    clear hgr HRD hO hO3 hO4 hc3 hb3 hb4 f1 f3 HIX hb1 hb2
    rw [hv]
    go_upto_region 5 with fail
    refine wp_region_lit ?_
    go_step
    go_step
    go_step
    go_step
    go_step
    go_step
    go_step
    go_step
    go_step
    refine wpList_load_mid rfl 46 _ rfl g (j * 24) rfl (encB xj) _ hrj Try.underlying46 rfl (inf67.trans (by rw [encB_len])) ?_
    go_wp2_with fail
    refine (HTX.out _).mono ?_
    rintro e w5 ⟨rfl, hb5⟩
    go_wp2_with fail
    go_ret2
    exact ⟨by rw [HM.out]; rfl, hb4'.trans (hb5.mono hb4'.size)⟩
end Go.Proofs.Ythlbplmghjaeoad
