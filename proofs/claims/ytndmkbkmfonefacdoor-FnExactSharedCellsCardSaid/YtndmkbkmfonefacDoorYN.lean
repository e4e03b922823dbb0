/- Opening: the openings that a cell is in, by the model; both functions. -/
import Derived.Test.YtndmkbkmfonefacDoorYG
import Derived.Outline
namespace Go.Proofs.YtndmkbkmfonefacDoor
open Go.RowKit

set_option maxRecDepth 100000 in
set_option maxHeartbeats 1600000 in
theorem opWith_any (l : List UInt8) (W H : Nat) (cells : List UInt8) (c : Int) (w : World) (hl : l.length ≤ 1048576) (hB : Brd l W H cells) :
    Calls Tryd.prog 59 #[.string ⟨l.toArray⟩, .int .i64 c] w fun e w' => ∃ a cap, e = .returned (.slice a (wiM (openingsM cells W) c).length cap) ∧ Owns w' w.heap.size 3 (.slice a (wiM (openingsM cells W) c).length cap) (nats (wiM (openingsM cells W) c)) ∧ Below w.heap.size w w' := by
  have hn64 := hB.n64
  have hall := fun w => opAll_any l W H cells w hl hB
  have HALL := Lib.hid hall
  have hrl : (openingsM cells W).length ≤ 64 := by rw [openingsM, List.length_map]; exact Nat.le_trans (firstsM_le _ _) hn64
  have HR : Hid (∀ r ∈ openingsM cells W, r.length ≤ 64) := by
    intro r hr
    simp only [openingsM, List.mem_map] at hr
    obtain ⟨z, _, rfl⟩ := hr
    exact Nat.le_trans (opM_le _ _ _) hn64
  clear hB hall
  generalize openingsM cells W = rss at *
  have HW : Hid (wiM rss c = filtM (fun i => hasI ((rss.getD i []).map Int.ofNat) c) rss.length) := rfl
  generalize wiM rss c = wi at *
  generalize hp : (fun i => hasI ((rss.getD i []).map Int.ofNat) c) = p at *
  have HP := Lib.hid hp
  clear hp
  go_enter Tryd.func59, Tryd.ntmps59
  go_wp2_with fail
  refine (HALL.out _).mono ?_
  rintro e w1 ⟨v1, v2, us, rfl, hus, hF, hb1⟩
  obtain ⟨av, cv, hv⟩ := hF.head.shape
  rw [hus] at hv
  subst hv
  have HUS := Lib.hid hus
  have hF1 : Fam w1 w.heap.size ((.slice av rss.length cv, 25, us) :: (rowsF us rss ++ [])) := by rw [List.append_nil]; exact hF.swap.tail
  have s1 := hb1.size
  clear hus hF
  go_wp2_with fail
  go_loopw [7, 17] (fun v i wr => ∃ k : Nat, k ≤ rss.length ∧ i = .int .i64 k ∧ Owns wr w1.heap.size 3 v (nats (filtM p k)) ∧ Below w1.heap.size w1 wr) (fun _ i _ => rss.length - (intOf i).toNat)
  case atStart => exact ⟨0, Nat.zero_le _, rfl, Owns.nil _ _ _, Below.refl _ _⟩
  case round =>
    obtain ⟨k, hk, rfl, hown, hbr⟩ := hrel
    have hle := filtM_le p k
    have hsr := hbr.size
    by_cases hlt : k < rss.length
    · obtain ⟨g, off, ar, cr, rfl, hc, ho⟩ := (hF1.later hbr).row HUS.out k hlt
      have hrl2 := HR.out _ (List.getElem_mem hlt)
      have hcon := l1Has_any (rss[k].map Int.ofNat) c ar cr wr ho.at (by simp; omega)
      rw [List.length_map] at hcon
      have hpk : Hid (hasI (rss[k].map Int.ofNat) c = p k) := by rw [Hid, ← HP.out]; simp [List.getD, hlt]
      rw [hpk.out] at hcon
      clear hpk ho
      cases hv : p k with
      | true =>
        rw [hv] at hcon
        have HV := Lib.hid hv
        have HC := Lib.hid hcon
        clear hv hcon
        go_wp2_with fail
        refine HC.out.mono ?_
        rintro e w2 ⟨rfl, rfl⟩
        go_wp2_with (at_builtin; refine wpList_app1 rfl _ _ _ rfl _ _ _ _ elemInt _ _ _ _ rfl rfl rfl hown rfl (by simp; omega) hsr (by simp; omega) ?_; intro v1 w3 hown1 hb3 hs3)
        rw [nats_snoc, ← filtM_yes HV.out] at hown1
        go_roundw
        case rel =>
          first
            | exact ⟨k + 1, by omega, by go_num, hown1, hbr.trans hb3⟩
            | ((repeat apply Exists.intro); exact ⟨⟨k + 1, by omega, by go_num, hown1, hbr.trans hb3⟩, rfl⟩)
        case measure => simp [intOf]; omega
      | false =>
        rw [hv] at hcon
        have HV := Lib.hid hv
        have HC := Lib.hid hcon
        clear hv hcon
        go_wp2_with fail
        refine HC.out.mono ?_
        rintro e w2 ⟨rfl, rfl⟩
        go_wp2_with fail
        go_roundw
        case rel =>
          first
            | exact ⟨k + 1, by omega, by go_num, by rw [filtM_no HV.out]; exact hown, hbr⟩
            | ((repeat apply Exists.intro); exact ⟨⟨k + 1, by omega, by go_num, by rw [filtM_no HV.out]; exact hown, hbr⟩, rfl⟩)
        case measure => simp [intOf]; omega
    · obtain rfl : k = rss.length := by omega
      go_wp2_with fail
      go_ret
      rw [← HW.out] at hown
      obtain ⟨a', cap', hv⟩ := hown.shape
      simp only [nats_length] at hv
      exact ⟨a', cap', by rw [← hv]; rfl, by rw [← hv]; exact hown.mono s1, hb1.trans (hbr.mono s1)⟩

/-- What OpeningsWith hands back. -/
def owOf (l : List UInt8) (c : Int) : List Nat := if freeOK l c = true then wiM (opsOf l) c else []
theorem owOf_len (l : List UInt8) (c : Int) : (owOf l c).length ≤ 1048576 := by
  unfold owOf
  split
  · refine Nat.le_trans (wiM_le _ _) ?_
    rw [opsOf_length]
    exact Nat.le_trans (fstOf_le l) (by decide)
  · simp

set_option maxRecDepth 100000 in
set_option maxHeartbeats 1600000 in
theorem iOpeningsWith_any (l : List UInt8) (c : Int) (w : World) (hM : HasMax w) (hl : l.length ≤ 1048576) :
    Calls Tryd.prog 31 #[.string ⟨l.toArray⟩, .int .i64 c] w fun e w' => ∃ a cap, e = .returned (.tuple #[.slice a (owOf l c).length cap, .bool (freeOK l c)]) ∧ Owns w' w.heap.size 3 (.slice a (owOf l c).length cap) (nats (owOf l c)) ∧ Below w.heap.size w w' := by
  by_cases hc : freeOK l c = true
  · have hgl := gCells_le l
    have hop := fun (w : World) a cap (h : At w a (byts (gCells l))) => openings_any (gW l) (gH l) a (gCells l) cap w h hgl (gW_pos l)
    rw [show openingsM (gCells l) (gW l) = opsOf l from rfl] at hop
    have HOP := Lib.hid hop
    have hrow := Lib.hid (opsOf_row l)
    have hrl : (opsOf l).length ≤ 64 := by rw [opsOf_length]; exact fstOf_le l
    have HO : Hid (owOf l c = wiM (opsOf l) c) := by rw [Hid, owOf, if_pos hc]
    have HC := Lib.hid hc
    have hrf := fun w h => readFree_yes l c w h hl hc
    have HRF := Lib.hid hrf
    clear hop hc hrf
    generalize opsOf l = rss at *
    go_enter Tryd.func31, Tryd.ntmps31
    go_wp2_with fail
    refine (HRF.out _ hM).mono ?_
    rintro e w1 ⟨a, cap, rfl, hown, hb⟩
    have s1 := hb.size
    have hat : ∀ o, At (w1.alloc o) a (byts (gCells l)) := fun o => (hown.at).later rfl ((Below.refl _ _).alloc (Nat.le_refl _) _)
    go_wp2_with fail
    refine (HOP.out _ a cap (hat _)).mono ?_
    rintro e w2 ⟨v, us, rfl, hus, hF, hb2⟩
    have hbw := (hb.alloc s1 (.cells #[.int .i64 (gW l), .int .i64 (gH l), .slice a (gCells l).length cap, .bool false] 42)).trans (hb2.mono (by simp; omega))
    obtain ⟨a1, cap1, hv⟩ := hF.head.shape
    rw [hus] at hv
    subst hv
    have HUS := Lib.hid hus
    have hF2 : Fam w2 w.heap.size ((.slice a1 rss.length cap1, 25, us) :: (rowsF us rss ++ [])) := by rw [List.append_nil]; exact hF.mono (by simp; omega)
    clear hus hF hb2 hb
    go_wp2_with fail
    refine (openingsWith_any rss c a1 cap1 us [] _ _ HUS.out hF2 (by omega) (fun r h => by have := hrow.out r h; omega)).mono ?_
    rintro e w3 ⟨a3, cap3, rfl, hown3, hb3⟩
    rw [← HO.out] at hown3 ⊢
    go_wp2_with fail
    go_ret2
    exact ⟨a3, cap3, by rw [HC.out]; rfl, hown3.mono hbw.size, hbw.trans (hb3.mono hbw.size)⟩
  · have hgl : (0 : Nat) ≤ 64 := by omega
    have HO : Hid (owOf l c = []) := by rw [Hid, owOf, if_neg hc]
    have hc' : freeOK l c = false := by simpa using hc
    have HC := Lib.hid hc'
    have hrf := fun w h => readFree_no l c w h hl hc'
    have HRF := Lib.hid hrf
    clear hc hrf hc'
    go_enter Tryd.func31, Tryd.ntmps31
    go_wp2_with fail
    refine (HRF.out _ hM).mono ?_
    rintro e w1 ⟨rfl, hb⟩
    have s1 := hb.size
    unfold NoGrid
    go_wp2_with fail
    refine (openings_any 0 0 none [] 0 _ (by intro k hk; simp at hk) (by simp) (by simp)).mono ?_
    rintro e w2 ⟨v, us, rfl, hus, hF, hb2⟩
    have hbw := (hb.alloc s1 (.cells #[.int .i64 0, .int .i64 0, .slice none 0 0, .bool false] 42)).trans (hb2.mono (by simp; omega))
    rw [show openingsM [] (0 : Nat) = [] from rfl] at hus hF
    obtain ⟨a1, cap1, hv⟩ := hF.head.shape
    rw [hus] at hv
    subst hv
    have HUS := Lib.hid hus
    have hF2 : Fam w2 w.heap.size ((.slice a1 ([] : List (List Nat)).length cap1, 25, us) :: (rowsF us [] ++ [])) := by rw [List.append_nil]; exact hF.mono (by simp; omega)
    clear hus hF hb2 hb
    go_wp2_with fail
    refine (openingsWith_any [] c a1 cap1 us [] _ _ HUS.out hF2 (by simp) (by simp)).mono ?_
    rintro e w3 ⟨a3, cap3, rfl, hown3, hb3⟩
    rw [show wiM [] c = [] from rfl] at hown3 ⊢
    go_wp2_with fail
    go_ret2
    exact ⟨a3, cap3, by rw [HC.out, HO.out]; rfl, by rw [HO.out]; exact hown3.mono hbw.size, hbw.trans (hb3.mono hbw.size)⟩

set_option maxRecDepth 100000 in
set_option maxHeartbeats 800000 in
theorem sOpeningsWith_any (l : List UInt8) (c : Int) (w : World) (hl : l.length ≤ 1048576) :
    Calls Tryd.prog 30 #[.string ⟨l.toArray⟩, .int .i64 c] w fun e w' => ∃ a cap, e = .returned (.tuple #[.slice a (owOf l c).length cap, .bool (freeOK l c)]) ∧ Owns w' w.heap.size 3 (.slice a (owOf l c).length cap) (nats (owOf l c)) ∧ Below w.heap.size w w' := by
  have hf := fun w => opFree_any l c w hl
  by_cases hc : freeOK l c = true
  · rw [hc] at hf
    have hg := (freeOK_yes hc).1
    have hB := Brd.of hg
    obtain ⟨g1, g2, g3⟩ := hB.grid
    have HN : Hid (owOf l c = wiM (openingsM (cellsM l) (headLen (splitB 47 l))) c) := by rw [Hid, owOf, if_pos hc, opsOf, g3, g1]
    have HC := Lib.hid hc
    have HF := Lib.hid hf
    have hcl := fun w => opWith_any l _ _ _ c w hl hB
    rw [← HN.out] at hcl
    have HCL := Lib.hid hcl
    clear hc hf hcl hB g1 g2 g3 hg
    go_enter Tryd.func30, Tryd.ntmps30
    go_wp2_with fail
    refine (HF.out _).mono ?_
    rintro e w1 ⟨rfl, hb1⟩
    go_wp2_with fail
    refine (HCL.out _).mono ?_
    rintro e w2 ⟨a, cap, rfl, hown2, hb2⟩
    go_wp2_with fail
    go_ret2
    exact ⟨a, cap, by rw [HC.out]; rfl, hown2.mono hb1.size, hb1.trans (hb2.mono hb1.size)⟩
  · have hc' : freeOK l c = false := by simpa using hc
    rw [hc'] at hf
    have hN : Hid (owOf l c = []) := by rw [Hid, owOf, if_neg hc]
    have HC := Lib.hid hc'
    have HF := Lib.hid hf
    clear hc hc' hf
    go_enter Tryd.func30, Tryd.ntmps30
    go_wp2_with fail
    refine (HF.out _).mono ?_
    rintro e w1 ⟨rfl, hb1⟩
    go_wp2_with fail
    go_ret2
    exact ⟨none, 0, by rw [hN.out, HC.out]; rfl, by rw [hN.out]; exact Owns.nil _ _ _, hb1⟩
end Go.Proofs.YtndmkbkmfonefacDoor
