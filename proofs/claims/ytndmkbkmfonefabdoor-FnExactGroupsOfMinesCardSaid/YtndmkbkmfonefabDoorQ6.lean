/- Groups of mines: all groups, by the program. -/
import Derived.Test.YtndmkbkmfonefabDoorQ5
import Derived.Test.YtndmkbkmfonefabDoorYF
import Derived.Outline
namespace Go.Proofs.YtndmkbkmfonefabDoor
open Go.RowKit
open scoped Classical

/-- The cells below n that hang together with a spot, increasing. -/
noncomputable def grpM (V : Geo) (W n : Nat) (X : List (Nat × Nat)) (c : Nat × Nat) : List Nat := (List.range n).filter fun x => decide (∃ p, Conn V X c p ∧ x = p.1 * W + p.2)
/-- The groups of a list of cells, X being the spots that are left. -/
noncomputable def grpsGo (V : Geo) (W n : Nat) : List (Nat × Nat) → List Nat → List (List Nat)
  | _, [] => []
  | X, k :: r => if spOf W k ∈ X then grpM V W n X (spOf W k) :: grpsGo V W n (X.filter fun p => decide (¬ Conn V X (spOf W k) p)) r else grpsGo V W n X r
/-- What GroupsOfMines hands back. -/
noncomputable def gomM (l : List UInt8) : List (List Nat) := grpsGo (gW l) (gW l) (gCells l).length ((minM (gCells l)).map (spOf (gW l))) (minM (gCells l))

theorem grp_eq {V : Geo} {W n : Nat} {X G : List (Nat × Nat)} {c : Nat × Nat} {R : List Nat} (hr : R.Pairwise (· < ·)) (hR : ∀ x, x ∈ R ↔ ∃ p : Nat × Nat, p ∈ G ∧ x = p.1 * W + p.2) (hG : ∀ p, p ∈ G ↔ Conn V X c p) (hX : ∀ p, p ∈ G → p.1 * W + p.2 < n) : R = grpM V W n X c := by
  refine rise_ext hr (List.Pairwise.filter _ List.pairwise_lt_range) (fun x => ?_)
  rw [hR x, grpM, List.mem_filter, List.mem_range, decide_eq_true_iff]
  constructor
  · rintro ⟨p, hp, rfl⟩
    exact ⟨hX p hp, p, (hG p).1 hp, rfl⟩
  · rintro ⟨_, p, hp, rfl⟩
    exact ⟨p, (hG p).2 hp, rfl⟩
theorem left_eq {V : Geo} {X G : List (Nat × Nat)} {c : Nat × Nat} (hG : ∀ p, p ∈ G ↔ Conn V X c p) : X.filter (fun p => decide (p ∉ G)) = X.filter (fun p => decide (¬ Conn V X c p)) := by
  refine List.filter_congr (fun p _ => ?_)
  rw [decide_eq_decide, hG p]

/-- Rows of a family stay where another block is touched; a new row comes. -/
theorem Fam.touch {w w' : World} {B b : Nat} {F : List Rw} (h : Fam w B F) (ht : Touch b w w') (hb : b < B) : Fam w' B F := ⟨fun x hx => (h.own x hx).touch ht hb, h.apart⟩
theorem Fam.fresh2 {w w' : World} {B b e : Nat} {v : Value} {xs : List Value} {F : List Rw} (h : Fam w B F) (ht : Touch b w w') (hb : b < B) (ho : Owns w' w.heap.size e v xs) (hB : B ≤ w.heap.size) : Fam w' B ((v, e, xs) :: F) := by
  refine ⟨?_, List.pairwise_cons.2 ⟨?_, h.apart⟩⟩
  · intro x hx
    rcases List.mem_cons.1 hx with rfl | hx
    · exact ho.mono hB
    · exact (h.own x hx).touch ht hb
  · intro y hy
    exact (Apart.fresh (h.own y hy) (fun k hk => (ho.lt k hk).1)).symm

theorem places_eqm (cells : List UInt8) : places 42 cells = minM cells := rfl
theorem spOf_lt {W : Nat} (hW : 1 ≤ W) (k : Nat) : (spOf W k).2 < W ∧ (spOf W k).1 * W + (spOf W k).2 = k :=
  ⟨Nat.mod_lt _ (by omega), Nat.div_add_mod' k W⟩

set_option maxRecDepth 100000 in
set_option maxHeartbeats 3200000 in
theorem groupsJ_any {J : Bool} (W H : Nat) (a : Option Addr) (cells : List UInt8) (cap : Nat) (w : World) (hat : At w a (byts cells)) (hgl : cells.length ≤ 64) (hW : 0 < cells.length → 1 ≤ W ∧ W ≤ 8) (hJ : J = true → 0 < cells.length → (1 ≤ W ∧ W ≤ 1048576) ∧ (1 ≤ H ∧ H ≤ 1048576)) :
    Calls Tryd.prog 62 #[.agg #[.int .i64 W, .int .i64 H, .slice a cells.length cap, .bool J]] w fun e w' => ∃ a' cap' us, e = .returned (.slice a' (grpsGo (geoOf J W H) W cells.length ((minM cells).map (spOf W)) (minM cells)).length cap') ∧ us.length = (grpsGo (geoOf J W H) W cells.length ((minM cells).map (spOf W)) (minM cells)).length ∧
      Fam w' w.heap.size ((.slice a' (grpsGo (geoOf J W H) W cells.length ((minM cells).map (spOf W)) (minM cells)).length cap', 29, us) :: rowsF us (grpsGo (geoOf J W H) W cells.length ((minM cells).map (spOf W)) (minM cells))) ∧ Below w.heap.size w w' := by
  have hml := fun k (h : k ∈ minM cells) => minM_lt h
  have hmr : (minM cells).length ≤ 64 := Nat.le_trans (places_le 42 cells) hgl
  generalize hgq : grpsGo (geoOf J W H) W cells.length ((minM cells).map (spOf W)) (minM cells) = gom at *
  have HGM := Lib.hid hgq.symm
  clear hgq
  go_enter Tryd.func62, Tryd.ntmps62
  go_wp2_with fail
  have hba : Below w.heap.size w (w.alloc (.cells #[.int .i64 W, .int .i64 H, .slice a cells.length cap, .bool J] 50)) := (Below.refl _ _).alloc (Nat.le_refl _) _
  have hGa : (w.alloc (.cells #[.int .i64 W, .int .i64 H, .slice a cells.length cap, .bool J] 50)).heap[w.heap.size]? = some (.cells #[.int .i64 W, .int .i64 H, .slice a cells.length cap, .bool J] 50 (0, 0)) := heap_alloc_new w _
  have hsa : w.heap.size < (w.alloc (.cells #[.int .i64 W, .int .i64 H, .slice a cells.length cap, .bool J] 50)).heap.size := by simp
  have hat2 : At (w.alloc (.cells #[.int .i64 W, .int .i64 H, .slice a cells.length cap, .bool J] 50)) a (byts cells) := hat.later rfl hba
  generalize w.alloc (.cells #[.int .i64 W, .int .i64 H, .slice a cells.length cap, .bool J] 50) = w2 at *
  refine (mineSpots_any W H a cells cap w2 hat2 (fun h => (hW h).1) hgl).mono ?_
  rintro e w3 ⟨b, n, rfl, hb2, hn, hM3, hb3⟩
  have s2 := hba.size
  have s3 := hb3.size
  have hG3 := (hb3.block _ hsa).trans hGa
  have hat3 := hat2.later rfl hb3
  have hx0 := cell_of_block hG3 0
  have hx1 := cell_of_block hG3 1
  have hx2 := cell_of_block hG3 2
  have hx3 := cell_of_block hG3 3
  simp at hx0 hx1 hx2 hx3
  have hbw3 := hba.trans (hb3.mono s2)
  have hlt3 := hM3.lt
  clear hGa hba hb3 hat2
  go_wp2_with fail
  refine (mines_any W H a cells cap w3 hat3 hgl).mono ?_
  rintro e w4 ⟨am, cm, rfl, hom, hb4⟩
  have s4 := hb4.size
  have hG4 := (hb4.block _ (by omega)).trans hG3
  have hM4 := hM3.later hb4
  have hbw4 := hbw3.trans (hb4.mono (by omega))
  have HMS : Hid (places 42 cells = minM cells) := rfl
  rw [HMS.out] at hom ⊢
  clear hx0 hx1 hx2 hx3 hG3 hM3 hb4 hat3
  generalize hms : minM cells = ms at *
  have HMM := Lib.hid hms
  clear hms
  have hatm := hom.at
  go_wp2_with fail
  have hlm := hom.lt
  clear hom
  go_loopw [4, 12] (fun v i wr => ∃ (k : Nat) (X : List (Nat × Nat)) (us : List Value) (acc : List (List Nat)), k ≤ ms.length ∧ i = .int .i64 k ∧ Hid (gom = acc ++ grpsGo (geoOf J W H) W cells.length X (ms.drop k)) ∧ us.length = acc.length ∧ acc.length ≤ k ∧ Fam wr w4.heap.size ((v, 29, us) :: rowsF us acc) ∧ Spots wr b n X ∧ Hid (∀ p, p ∈ X → ∃ j, j ∈ ms ∧ p = spOf W j) ∧ X.length ≤ 64 ∧ At wr am (nats ms) ∧ Hid (wr.heap[w.heap.size]? = some (.cells #[.int .i64 W, .int .i64 H, .slice a cells.length cap, .bool J] 50 (0, 0))) ∧ Touch b w4 wr) (fun _ i _ => ms.length - (intOf i).toNat)
  case atStart => exact ⟨0, _, [], [], Nat.zero_le _, rfl, by rw [Hid, HGM.out]; rfl, rfl, Nat.le_refl _, (Fam.empty _ _).nil, hM4, Lib.hid (fun p hp => by obtain ⟨j, hj, e⟩ := List.mem_map.1 hp; exact ⟨j, hj, e.symm⟩), by rw [List.length_map]; exact hmr, hatm, Lib.hid hG4, Touch.refl _ _⟩
  case round =>
    obtain ⟨k, X, us, acc, hk, rfl, hgo, hus, hak, hF, hX, hXm, hXl, hatr, hGr, ht⟩ := hrel
    have HUS := Lib.hid hus
    have hus2 : us.length ≤ 64 := by omega
    have sr := ht.size
    have hXlt := hX.lt
    clear hus
    by_cases hlt : k < ms.length
    · have hck := hml _ (List.getElem_mem hlt)
      obtain ⟨hW1, hW8⟩ := hW (by omega)
      have Ht := Lib.hid (List.drop_eq_getElem_cons hlt)
      obtain ⟨g0, off0, rfl, hc0⟩ := nats_at hatr k hlt
      have hOK : spOK (spOf W ms[k]) := ⟨Nat.lt_of_le_of_lt (Nat.div_le_self _ _) (by omega), Nat.lt_of_le_of_lt (Nat.mod_le _ _) (by omega)⟩
      have hf0 := cell_of_block hGr.out 0
      have hf1 := cell_of_block hGr.out 1
      have hf2 := cell_of_block hGr.out 2
      have hf3 := cell_of_block hGr.out 3
      simp at hf0 hf1 hf2 hf3
      have hgrl := block_lt hGr.out
      go_wp2_with fail
      refine (spotOf_any W H a cells.length cap ms[k] wr hW1 (by omega)).mono ?_
      rintro e w6 ⟨rfl, hb6⟩
      have hX6 := hX.later hb6
      have hF6 := hF.later hb6
      have hat6 := hatr.later rfl hb6
      have ht6 := ht.trans (Touch.of hb6)
      have hG6 := (hb6.block _ hgrl).trans hGr.out
      have s6 := hb6.size
      have hx0 := cell_of_block hG6 0
      have hx1 := cell_of_block hG6 1
      have hx2 := cell_of_block hG6 2
      have hx3 := cell_of_block hG6 3
      simp at hx0 hx1 hx2 hx3
      have HG6 := Lib.hid hG6
      clear hf0 hf1 hf2 hf3 hX hF hatr ht hb6 hG6 hc0
      by_cases hin : spOf W ms[k] ∈ X
      · have hv : decide (spOf W ms[k] ∈ X) = true := decide_eq_true hin
        have hXL : ∀ p ∈ X, p.1 ≤ 64 ∧ p.2 ≤ 64 := fun p hp => by
          obtain ⟨j, hj, rfl⟩ := hXm.out p hp
          have := hml j hj
          exact ⟨Nat.le_trans (Nat.div_le_self _ _) (by omega), Nat.le_trans (Nat.mod_le _ _) (by omega)⟩
        have hXW : ∀ p ∈ X, p.2 < W := fun p hp => by
          obtain ⟨j, hj, rfl⟩ := hXm.out p hp
          exact (spOf_lt hW1 j).1
        have htg := fun w h => takeGroupJ_any (J := J) W H a cells.length cap b n X ms[k] w h hW1 hW8 (by omega) hin hXL hXW hXl (fun q => hJ q (by omega))
        have hgo2 : Hid (grpsGo (geoOf J W H) W cells.length X (ms.drop k) = grpM (geoOf J W H) W cells.length X (spOf W ms[k]) :: grpsGo (geoOf J W H) W cells.length (X.filter fun p => decide (¬ Conn (geoOf J W H) X (spOf W ms[k]) p)) (ms.drop (k + 1))) := by
          rw [Hid, Ht.out, grpsGo, if_pos hin]
        have HTG := Lib.hid htg
        clear htg hXL hXW hin
        go_wp2_with (at_lookup; refine wpList_spot_look rfl _ _ rfl b n X rfl hX6 (spOf W ms[k]) rfl hOK true hv ?_)
        refine (HTG.out w6 hX6).mono ?_
        rintro e w7 ⟨a7, c7, G, R, rfl, hown7, hRr, hRm, hGm, hGX, hX7, ht7⟩
        have hGn : ∀ p, p ∈ G → p.1 * W + p.2 < cells.length := fun p hp => by
          obtain ⟨j, hj, rfl⟩ := hXm.out p (hGX p hp)
          rw [(spOf_lt hW1 j).2]
          exact hml j hj
        obtain rfl := grp_eq hRr hRm hGm hGn
        rw [left_eq hGm] at hX7
        have s7 := ht7.size
        have hF7 := (hF6.fresh2 ht7 (by omega) hown7 (by omega)).swap
        have hat7 := hat6.touch ht7 hX6.nocells
        have hG7 := (ht7.block w.heap.size (block_lt HG6.out) (by simp; omega)).trans HG6.out
        have ht07 := ht6.trans ht7
        have hXf := Nat.le_trans (List.length_filter_le (fun p => decide (¬ Conn (geoOf J W H) X (spOf W ms[k]) p)) X) hXl
        have hXm2 : Hid (∀ p, p ∈ X.filter (fun p => decide (¬ Conn (geoOf J W H) X (spOf W ms[k]) p)) → ∃ j, j ∈ ms ∧ p = spOf W j) := fun p hp => hXm.out p (List.mem_filter.1 hp).1
        have HGO : Hid (gom = (acc ++ [grpM (geoOf J W H) W cells.length X (spOf W ms[k])]) ++ grpsGo (geoOf J W H) W cells.length (X.filter fun p => decide (¬ Conn (geoOf J W H) X (spOf W ms[k]) p)) (ms.drop (k + 1))) := by
          rw [Hid, hgo.out, hgo2.out, List.append_assoc]; rfl
        clear hRr hRm hGm hGX hGn hF6 hat6 ht6 hX6 hown7 hgo2 hv ht7
        generalize grpM (geoOf J W H) W cells.length X (spOf W ms[k]) = R at *
        generalize X.filter (fun p => decide (¬ Conn (geoOf J W H) X (spOf W ms[k]) p)) = X' at *
        go_wp2_with (at_builtin; refine wpList_app1F rfl _ _ _ rfl w4.heap.size _ _ _ elemRow _ _ _ _ _ rfl rfl rfl hF7 rfl (by omega) (by omega) (by omega) ?_; intro v8 w8 hF8 hb8 hs8)
        have hF9 := hF8.perm ((List.Perm.cons _ (List.perm_append_singleton _ _).symm))
        have e1 : rowsF us acc ++ [(.slice a7 R.length c7, 3, nats R)] = rowsF (us ++ [.slice a7 R.length c7]) (acc ++ [R]) := by
          rw [rowsF_snoc _ _ us _ (by rw [HUS.out])]
        rw [e1] at hF9
        clear e1 hF8 hF7
        go_roundw
        case rel =>
          first
            | exact ⟨k + 1, X', _, acc ++ [R], by omega, by go_num, HGO, by simp [HUS.out], by simp; omega, hF9, hX7.kept (by omega) hb8, hXm2, hXf, hat7.below hatm (Nat.le_refl _) hb8, Lib.hid ((hb8.block _ (by omega)).trans hG7), ht07.then hb8 (Nat.le_refl _)⟩
            | ((repeat apply Exists.intro); exact ⟨⟨k + 1, X', _, acc ++ [R], by omega, by go_num, HGO, by simp [HUS.out], by simp; omega, hF9, hX7.kept (by omega) hb8, hXm2, hXf, hat7.below hatm (Nat.le_refl _) hb8, Lib.hid ((hb8.block _ (by omega)).trans hG7), ht07.then hb8 (Nat.le_refl _)⟩, rfl⟩)
        case measure => simp [intOf]; omega
      · have hv : decide (spOf W ms[k] ∈ X) = false := decide_eq_false hin
        have hgo2 : Hid (gom = acc ++ grpsGo (geoOf J W H) W cells.length X (ms.drop (k + 1))) := by rw [Hid, hgo.out, Ht.out, grpsGo, if_neg hin]
        clear hin
        go_wp2_with (at_lookup; refine wpList_spot_look rfl _ _ rfl b n X rfl hX6 (spOf W ms[k]) rfl hOK false hv ?_)
        go_roundw
        case rel => exact ⟨k + 1, X, us, acc, by omega, by go_num, hgo2, HUS.out, by omega, hF6, hX6, hXm, hXl, hat6, HG6, ht6⟩
        case measure => simp [intOf]; omega
    · obtain rfl : k = ms.length := by omega
      have hge : Hid (gom = acc) := by rw [Hid, hgo.out, List.drop_length, grpsGo, List.append_nil]
      obtain ⟨av, cv, hv⟩ := hF.head.shape
      subst hv
      have hs0 : w.heap.size ≤ w4.heap.size := hbw4.size
      go_wp2_with fail
      go_ret
      have hul : us.length = gom.length := by rw [HUS.out, hge.out]
      refine ⟨av, cv, us, by rw [← hul]; rfl, hul, ?_, hbw4.trans (ht.below (by omega) (by omega))⟩
      rw [← hul, hge.out]
      exact hF.mono hs0

set_option maxRecDepth 100000 in
set_option maxHeartbeats 800000 in
theorem iGroupsOfMines_any (l : List UInt8) (w : World) (hM : HasMax w) (hl : l.length ≤ 1048576) :
    Calls Tryd.prog 31 #[.string ⟨l.toArray⟩] w fun e w' => ∃ a cap us, e = .returned (.tuple #[.slice a (gomM l).length cap, .bool (boGoodM l)]) ∧ us.length = (gomM l).length ∧
      Fam w' w.heap.size ((.slice a (gomM l).length cap, 29, us) :: rowsF us (gomM l)) ∧ Below w.heap.size w w' := by
  have hgl := gCells_le l
  have hW : 0 < (gCells l).length → 1 ≤ gW l ∧ gW l ≤ 8 := by
    intro h
    cases hg : boGoodM l with
    | false =>
      have hn : ¬ boGoodM l = true := by rw [hg]; decide
      rw [gCells, if_neg hn] at h
      simp at h
    | true =>
      have hB := Brd.of hg
      obtain ⟨g1, _, _⟩ := hB.grid
      exact ⟨by rw [g1]; exact hB.w1, by rw [g1]; exact hB.w8⟩
  have hgr := fun w a cap h => groupsJ_any (J := false) (gW l) (gH l) a (gCells l) cap w h hgl hW nofun
  rw [show grpsGo (geoOf false (gW l) (gH l)) (gW l) (gCells l).length ((minM (gCells l)).map (spOf (gW l))) (minM (gCells l)) = gomM l from rfl] at hgr
  have HGR := Lib.hid hgr
  clear hgr
  go_enter Tryd.func31, Tryd.ntmps31
  go_wp2_with fail
  refine (readBoard_any l _ hM hl).mono ?_
  rintro e w1 ⟨a, cap, rfl, hown, hb⟩
  have s1 := hb.size
  have hat : ∀ o, At (w1.alloc o) a (byts (gCells l)) := fun o => (hown.at).later rfl ((Below.refl _ _).alloc (Nat.le_refl _) _)
  go_wp2_with fail
  refine (HGR.out _ a cap (hat _)).mono ?_
  rintro e w2 ⟨a', cap', us, rfl, hus, hF, hb2⟩
  go_wp2_with fail
  go_ret2
  exact ⟨a', cap', us, rfl, hus, hF.mono (by simp; omega), (hb.alloc s1 _).trans (hb2.mono (by simp; omega))⟩
end Go.Proofs.YtndmkbkmfonefabDoor
