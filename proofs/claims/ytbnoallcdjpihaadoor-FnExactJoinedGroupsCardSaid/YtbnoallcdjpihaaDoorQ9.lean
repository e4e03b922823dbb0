/- Groups of mines, by the model; how long they are. -/
import Derived.Test.YtbnoallcdjpihaaDoorQ8
import Derived.Outline
namespace Go.Proofs.YtbnoallcdjpihaaDoor
open Go.RowKit

theorem Grd.ofBoard {m : List UInt8} (h : boGoodM m = true) : Grd m (gW m) (gH m) (gCells m) := by
  obtain ⟨e1, e2, e3⟩ := gr_board m
  have h2 := Grd.of (p := rowSign) (l := m) (by rw [grid_good]; exact h)
  rw [e1, e2, e3] at h2
  exact h2
theorem grpsGo_len {V : Geo} {W n : Nat} : ∀ (r : List Nat) (X : List (Nat × Nat)), (grpsGo V W n X r).length ≤ r.length
  | [], _ => Nat.le_refl _
  | k :: r, X => by
    rw [grpsGo]
    split
    · rw [List.length_cons, List.length_cons]; exact Nat.succ_le_succ (grpsGo_len r _)
    · exact Nat.le_trans (grpsGo_len r X) (by simp)
theorem grpsGo_row {V : Geo} {W n : Nat} : ∀ (r : List Nat) (X : List (Nat × Nat)), ∀ g ∈ grpsGo V W n X r, g.length ≤ n
  | [], _, _, h => by cases h
  | k :: r, X, g, h => by
    rw [grpsGo] at h
    split at h
    · rcases List.mem_cons.1 h with rfl | h
      · unfold grpM
        exact Nat.le_trans (List.length_filter_le _ _) (by rw [List.length_range]; exact Nat.le_refl _)
      · exact grpsGo_row r _ g h
    · exact grpsGo_row r X g h
theorem gomM_len (l : List UInt8) : (gomM l).length ≤ 64 := Nat.le_trans (grpsGo_len _ _) (Nat.le_trans (places_le 42 (gCells l)) (gCells_le l))
theorem gomM_row (l : List UInt8) (g : List Nat) (h : g ∈ gomM l) : g.length ≤ 64 := Nat.le_trans (grpsGo_row _ _ g h) (gCells_le l)
theorem gomM_none {l : List UInt8} (h : boGoodM l = false) : gomM l = [] := by
  have hn : ¬ boGoodM l = true := by rw [h]; decide
  have e : minM (gCells l) = [] := by rw [gCells, if_neg hn]; rfl
  rw [gomM, e]; rfl
theorem gomM_seen {l : List UInt8} (hW : 1 ≤ gW l) : grpsSeen (gW l) (gW l) (gCells l).length ((minM (gCells l)).map (spOf (gW l))) [] (minM (gCells l)) = gomM l := by
  refine grps_same hW (fun p hp => ?_) _ _ _ (fun k hk => List.mem_map_of_mem hk) (fun p hp => hp) (fun p q _ hq _ => hq) (fun p hp => by simp; exact List.mem_map.1 hp)
  obtain ⟨k, hk, rfl⟩ := List.mem_map.1 hp
  have := spOf_lt hW k
  exact ⟨this.1, by rw [this.2]; exact minM_lt hk⟩

end Go.Proofs.YtbnoallcdjpihaaDoor
