/- Groups of mines, by the model; how long they are. -/
import Derived.Test.YtndmkbkmfonefabDoorQ8
import Derived.Outline
namespace Go.Proofs.YtndmkbkmfonefabDoor
open Go.RowKit

theorem Grd.ofBoard {m : List UInt8} (h : boGoodM m = true) : Grd m (gW m) (gH m) (gCells m) := by
  obtain ⟨e1, e2, e3⟩ := gr_board m
  have h2 := Grd.of (p := rowSign) (l := m) (by rw [grid_good]; exact h)
  rw [e1, e2, e3] at h2
  exact h2
theorem grpsGo_len {V : Geo} {W n : Nat} : ∀ (r : List Nat) (X : List (Nat × Nat)), (grpsGo V W n X r).length ≤ r.length
  | [], _ => Nat.le_refl _
  | k :: r, X => by
    rw [grpsGo]
    split
    · rw [List.length_cons, List.length_cons]; exact Nat.succ_le_succ (grpsGo_len r _)
    · exact Nat.le_trans (grpsGo_len r X) (by simp)
theorem grpsGo_row {V : Geo} {W n : Nat} : ∀ (r : List Nat) (X : List (Nat × Nat)), ∀ g ∈ grpsGo V W n X r, g.length ≤ n
  | [], _, _, h => by cases h
  | k :: r, X, g, h => by
    rw [grpsGo] at h
    split at h
    · rcases List.mem_cons.1 h with rfl | h
      · unfold grpM
        exact Nat.le_trans (List.length_filter_le _ _) (by rw [List.length_range]; exact Nat.le_refl _)
      · exact grpsGo_row r _ g h
    · exact grpsGo_row r X g h
theorem gomM_len (l : List UInt8) : (gomM l).length ≤ 64 := Nat.le_trans (grpsGo_len _ _) (Nat.le_trans (places_le 42 (gCells l)) (gCells_le l))
theorem gomM_row (l : List UInt8) (g : List Nat) (h : g ∈ gomM l) : g.length ≤ 64 := Nat.le_trans (grpsGo_row _ _ g h) (gCells_le l)
theorem gomM_none {l : List UInt8} (h : boGoodM l = false) : gomM l = [] := by
  have hn : ¬ boGoodM l = true := by rw [h]; decide
  have e : minM (gCells l) = [] := by rw [gCells, if_neg hn]; rfl
  rw [gomM, e]; rfl
theorem gomM_seen {l : List UInt8} (hW : 1 ≤ gW l) : grpsSeen (gW l) (gW l) (gCells l).length ((minM (gCells l)).map (spOf (gW l))) [] (minM (gCells l)) = gomM l := by
  refine grps_same hW (fun p hp => ?_) _ _ _ (fun k hk => List.mem_map_of_mem hk) (fun p hp => hp) (fun p q _ hq _ => hq) (fun p hp => by simp; exact List.mem_map.1 hp)
  obtain ⟨k, hk, rfl⟩ := List.mem_map.1 hp
  have := spOf_lt hW k
  exact ⟨this.1, by rw [this.2]; exact minM_lt hk⟩

set_option maxRecDepth 100000 in
set_option maxHeartbeats 800000 in
theorem sGroupsOfMines_any (l : List UInt8) (w : World) (hl : l.length ≤ 1048576) :
    Calls Tryd.prog 30 #[.string ⟨l.toArray⟩] w fun e w' => ∃ a cap us, e = .returned (.tuple #[.slice a (gomM l).length cap, .bool (boGoodM l)]) ∧ us.length = (gomM l).length ∧
      Fam w' w.heap.size ((.slice a (gomM l).length cap, 29, us) :: rowsF us (gomM l)) ∧ Below w.heap.size w w' := by
  have hg0 := fun w => boGood_any l w hl
  by_cases hg : boGoodM l = true
  · have hB := Grd.ofBoard hg
    have hsz := fun w => boSize_any l w hl
    rw [hB.size] at hsz
    have hcl := fun w => boCells_any l w hl
    rw [hB.cs] at hcl
    have hcz : (gCells l).length ≤ 64 := hB.n64
    have hmn := fun w => boMines_any (gCells l) 42 42 rfl w (by omega)
    have hse := gomM_seen hB.w1
    have hnd : (minM (gCells l)).Nodup := (placesGo_rise 42 (gCells l) 0).1.imp (fun h => Nat.ne_of_lt h)
    have hbo := fun a cap w h => boGroups_any (gW l) (gH l) (gCells l).length (minM (gCells l)) a cap w ⟨hB.w1, hB.w8⟩ hB.h8 hB.len (fun k hk => minM_lt hk) hnd h
    rw [hse] at hbo
    rw [hg] at hg0
    have HMM : Hid (places 42 (gCells l) = minM (gCells l)) := rfl
    rw [HMM.out] at hmn
    have HG := Lib.hid hg
    have HG0 := Lib.hid hg0
    have HS := Lib.hid hsz
    have HCL := Lib.hid hcl
    have HMN := Lib.hid hmn
    have HBO := Lib.hid hbo
    clear hg hg0 hsz hcl hmn hbo hB hse hnd HMM
    generalize minM (gCells l) = ms at *
    go_enter Tryd.func30, Tryd.ntmps30
    go_wp2_with fail
    refine (HG0.out _).mono ?_
    rintro e w1 ⟨rfl, hb⟩
    go_wp2_with fail
    refine (HS.out _).mono ?_
    rintro e w2 ⟨rfl, hb2⟩
    go_wp2_with fail
    refine (HCL.out _).mono ?_
    rintro e w3 ⟨rfl, rfl⟩
    go_wp2_with fail
    refine (HMN.out _).mono ?_
    rintro e w4 ⟨am, cm, rfl, hom, hb4⟩
    go_wp2_with fail
    refine (HBO.out am cm _ hom.at).mono ?_
    rintro e w5 ⟨v, us, rfl, hus, hF, hb5⟩
    obtain ⟨a1, cap1, hv⟩ := hF.head.shape
    rw [hus] at hv
    subst hv
    have HUS := Lib.hid hus
    clear hus
    have s1 := hb.size
    have s2 := hb2.size
    have s4 := hb4.size
    go_wp2_with fail
    go_ret2
    exact ⟨a1, cap1, us, by rw [HG.out]; rfl, HUS.out, hF.mono (by omega), ((hb.trans (hb2.mono s1)).trans (hb4.mono (by omega))).trans (hb5.mono (by omega))⟩
  · have hg' : boGoodM l = false := by simpa using hg
    have hN := Lib.hid (gomM_none hg')
    rw [hg'] at hg0
    have HG := Lib.hid hg'
    have HG0 := Lib.hid hg0
    clear hg hg' hg0
    go_enter Tryd.func30, Tryd.ntmps30
    go_wp2_with fail
    refine (HG0.out _).mono ?_
    rintro e w1 ⟨rfl, hb⟩
    go_wp2_with fail
    go_ret2
    refine ⟨none, 0, [], by rw [hN.out, HG.out]; rfl, by rw [hN.out]; rfl, by rw [hN.out]; exact (Fam.empty _ _).nil, hb⟩
end Go.Proofs.YtndmkbkmfonefabDoor
