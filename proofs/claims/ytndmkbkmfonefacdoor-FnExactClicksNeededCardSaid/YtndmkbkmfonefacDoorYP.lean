/- Opening: the best first clicks, by the program and by the model. -/
import Derived.Test.YtndmkbkmfonefacDoorYG
import Derived.Outline
namespace Go.Proofs.YtndmkbkmfonefacDoor
open Go.RowKit

/-- The cells with the most, told in their order, and how many. -/
def bcGo (f : Nat → Nat) : List Nat → List Nat → Nat → List Nat × Nat
  | [], b, m => (b, m)
  | c :: r, b, m => if m < f c then bcGo f r [c] (f c) else if f c = m then bcGo f r (b ++ [c]) m else bcGo f r b m
theorem bcGo_ge (f : Nat → Nat) : ∀ (r b : List Nat) (m : Nat), m ≤ (bcGo f r b m).2
  | [], _, _ => Nat.le_refl _
  | c :: r, b, m => by
    unfold bcGo
    split
    · have := bcGo_ge f r [c] (f c); omega
    · split
      · exact bcGo_ge f r _ m
      · exact bcGo_ge f r _ m
theorem bcGo_pos (f : Nat → Nat) (r : List Nat) (hf : ∀ c ∈ r, 0 < f c) (h : (bcGo f r [] 0).2 = 0) : (bcGo f r [] 0).1 = [] := by
  cases r with
  | nil => rfl
  | cons c r =>
    have h0 := hf c List.mem_cons_self
    rw [bcGo, if_pos h0] at h
    have := bcGo_ge f r [c] (f c)
    omega
theorem bcGo_len (f : Nat → Nat) : ∀ (r b : List Nat) (m : Nat), (bcGo f r b m).1.length ≤ b.length + r.length + 1
  | [], _, _ => by simp [bcGo]
  | c :: r, b, m => by
    unfold bcGo
    split
    · have := bcGo_len f r [c] (f c); simp at this; simp; omega
    · split
      · have := bcGo_len f r (b ++ [c]) m; simp at this; simp; omega
      · have := bcGo_len f r b m; simp; omega
theorem opM_self2 (cells : List UInt8) (W c : Nat) (hc : c < cells.length) : c ∈ opM cells W c := by
  rw [opM, mem_sortM (bfs_lt (nearM_lts W cells.length) hc), bfs0_mem (nearM_lts W cells.length) hc]
  exact .start
/-- The free cells. -/
def freeM (cells : List UInt8) : List Nat := filtM (fun k => freeB cells k) cells.length
theorem free_places (cells : List UInt8) (hs : ∀ c ∈ cells, c = 46 ∨ c = 42) : places 46 cells = freeM cells := by
  refine rise_ext (placesGo_rise 46 cells 0).1 (List.Pairwise.filter _ List.pairwise_lt_range) (fun x => ?_)
  rw [places, mem_placesGo, freeM, filtM, List.mem_filter, List.mem_range]
  constructor
  · rintro ⟨_, h⟩
    rw [Nat.sub_zero] at h
    obtain ⟨hx, he⟩ := List.getElem?_eq_some_iff.1 h
    exact ⟨hx, by rw [freeB_at cells x hx, he]; rfl⟩
  · rintro ⟨hx, h⟩
    rw [freeB_at cells x hx] at h
    refine ⟨Nat.zero_le _, ?_⟩
    rw [Nat.sub_zero, List.getElem?_eq_getElem hx]
    rcases hs _ (List.getElem_mem hx) with h2 | h2
    · rw [h2]
    · rw [h2] at h; simp at h
theorem freeM_lt (cells : List UInt8) (x : Nat) (h : x ∈ freeM cells) : x < cells.length := by
  rw [freeM, filtM, List.mem_filter, List.mem_range] at h
  exact h.1
theorem freeM_le (cells : List UInt8) : (freeM cells).length ≤ cells.length := filtM_le _ _

def bcM (cells : List UInt8) (W : Nat) : List Nat × Nat := bcGo (fun c => (opM cells W c).length) (freeM cells) [] 0
def bcOf (l : List UInt8) : List Nat := (bcM (gCells l) (gW l)).1
def bcMost (l : List UInt8) : Nat := (bcM (gCells l) (gW l)).2
def bcOK (l : List UInt8) : Bool := decide (0 < bcMost l)
theorem bcOf_len (l : List UInt8) : (bcOf l).length ≤ 1048576 := by
  have h1 := bcGo_len (fun c => (opM (gCells l) (gW l) c).length) (freeM (gCells l)) [] 0
  have h2 := freeM_le (gCells l)
  have h3 := gCells_le l
  unfold bcOf bcM
  simp only [List.length_nil] at h1
  omega
theorem bcOf_zero (l : List UInt8) (h : bcMost l = 0) : bcOf l = [] :=
  bcGo_pos _ _ (fun c hc => List.length_pos_of_mem (opM_self2 _ _ c (freeM_lt _ c hc))) h

theorem enters_isFree (args : Array Value) (w' : World) : (callFunc 58 args).run Tryd.prog w' = .ok (.enter 58 args) w' := by
  go_simp
set_option maxRecDepth 100000 in
set_option maxHeartbeats 3200000 in
theorem iBestClicks_any (l : List UInt8) (w : World) (hM : HasMax w) (hl : l.length ≤ 1048576) :
    Calls Tryd.prog 29 #[.string ⟨l.toArray⟩] w fun e w' => ∃ a cap, e = .returned (.tuple #[.slice a (bcOf l).length cap, .int .i64 ((bcMost l : Nat) : Int), .bool (bcOK l)]) ∧ Owns w' w.heap.size 3 (.slice a (bcOf l).length cap) (nats (bcOf l)) ∧ Below w.heap.size w w' := by
  have hgl := gCells_le l
  have hwp := gW_pos l
  have hfl := freeM_le (gCells l)
  have HFL : Hid (∀ x ∈ freeM (gCells l), x < (gCells l).length) := freeM_lt (gCells l)
  have HFE : Hid (freeM (gCells l) = filtM (fun k => freeB (gCells l) k) (gCells l).length) := rfl
  have HB : Hid ((bcOf l, bcMost l) = bcGo (fun c => (opM (gCells l) (gW l) c).length) (freeM (gCells l)) [] 0) := rfl
  have HOK : Hid (bcOK l = decide (0 < bcMost l)) := rfl
  have hole := fun c => opM_le (gCells l) (gW l) c
  have HOL := Lib.hid hole
  clear hole
  generalize bcOf l = bc at *
  generalize bcMost l = most at *
  generalize bcOK l = ok at *
  go_enter Tryd.func29, Tryd.ntmps29
  go_wp2_with fail
  refine (readBoard_any l _ hM hl).mono ?_
  rintro e w1 ⟨a, cap, rfl, hown, hb⟩
  have s1 := hb.size
  generalize gCells l = cells at *
  generalize gW l = W at *
  generalize gH l = H at *
  go_wp2_with fail
  have hba : Below w1.heap.size w1 (w1.alloc (.cells #[.int .i64 W, .int .i64 H, .slice a cells.length cap, .bool false] 42)) := (Below.refl _ _).alloc (Nat.le_refl _) _
  have hGa : (w1.alloc (.cells #[.int .i64 W, .int .i64 H, .slice a cells.length cap, .bool false] 42)).heap[w1.heap.size]? = some (.cells #[.int .i64 W, .int .i64 H, .slice a cells.length cap, .bool false] 42 (0, 0)) := heap_alloc_new w1 _
  have hsa : w1.heap.size < (w1.alloc (.cells #[.int .i64 W, .int .i64 H, .slice a cells.length cap, .bool false] 42)).heap.size := by simp
  have hata := hown.at.later rfl hba
  generalize w1.alloc (.cells #[.int .i64 W, .int .i64 H, .slice a cells.length cap, .bool false] 42) = wa at *
  have HGA := Lib.hid hGa
  clear hGa
  refine (pick_any W H a cells.length cap (fun k => freeB cells k) 58 #[.agg #[.int .i64 W, .int .i64 H, .slice a cells.length cap, .bool false]] #[] wa hgl enters_isFree ?_).mono ?_
  · intro w' k hb' _
    exact isFree_any W H a cells cap k w' (hata.later rfl hb') hgl
  rintro e w2 ⟨a2, cap2, rfl, hown2, hb2⟩
  rw [← HFE.out] at hown2 ⊢
  have s2 := hb2.size
  have hat2 := hata.later rfl hb2
  have hz2 := hown2.at
  have hbw := (hb.trans (hba.mono s1)).trans (hb2.mono (by omega))
  have HG2 : Hid (w2.heap[w1.heap.size]? = some (.cells #[.int .i64 W, .int .i64 H, .slice a cells.length cap, .bool false] 42 (0, 0))) := (hb2.block w1.heap.size hsa).trans HGA.out
  clear hown2 hb2 hb hba hata
  generalize freeM cells = free at *
  go_wp2_with fail
  go_loopw [7, 8, 22] (fun v mo i wr => ∃ (k : Nat) (b : List Nat) (m : Nat), k ≤ free.length ∧ i = .int .i64 k ∧ b.length ≤ k ∧ m ≤ 64 ∧ mo = .int .i64 m ∧ Owns wr w2.heap.size 3 v (nats b) ∧ Below w2.heap.size w2 wr ∧ Hid ((bc, most) = bcGo (fun c => (opM cells W c).length) (free.drop k) b m)) (fun _ _ i _ => free.length - (intOf i).toNat)
  case atStart => exact ⟨0, [], 0, Nat.zero_le _, rfl, by simp, by omega, rfl, Owns.nil _ _ _, Below.refl _ _, HB⟩
  case round =>
    obtain ⟨k, b, m, hk, rfl, hbk, hm, rfl, hown7, hbr, hR⟩ := hrel
    have sr := hbr.size
    by_cases hlt : k < free.length
    · have Ht := Lib.hid (List.drop_eq_getElem_cons hlt)
      have hxn : free[k] < cells.length := HFL.out _ (List.getElem_mem hlt)
      have hW1 := hwp (by omega)
      obtain ⟨g, off, he, hc⟩ := nats_at (hz2.later rfl hbr) k hlt
      subst he
      have hGr := (hbr.block w1.heap.size (by omega)).trans HG2.out
      have hf0 := cell_of_block hGr 0
      have hf1 := cell_of_block hGr 1
      have hf2 := cell_of_block hGr 2
      have hf3 := cell_of_block hGr 3
      simp at hf0 hf1 hf2 hf3
      clear hGr
      have hol := HOL.out free[k]
      go_wp2_with fail
      refine (openedBy_any W H a cells cap free[k] wr (hat2.later rfl hbr) hW1 hgl hxn).mono ?_
      rintro e w3 ⟨a3, cap3, rfl, _, hb3⟩
      have s3 := hb3.size
      have hown73 := hown7.later hb3
      have hbr3 := hbr.trans (hb3.mono sr)
      have hst : Hid (bcGo (fun c => (opM cells W c).length) (free.drop k) b m = if m < (opM cells W free[k]).length then bcGo (fun c => (opM cells W c).length) (free.drop (k + 1)) [free[k]] (opM cells W free[k]).length else if (opM cells W free[k]).length = m then bcGo (fun c => (opM cells W c).length) (free.drop (k + 1)) (b ++ [free[k]]) m else bcGo (fun c => (opM cells W c).length) (free.drop (k + 1)) b m) := by
        rw [Hid, Ht.out, bcGo]
      clear hf0 hf1 hf2 hf3 hc hb3
      generalize (opM cells W free[k]).length = n at *
      by_cases c1 : m < n
      · have C1 := Lib.hid c1
        have hd2 : ((n : Int) == (n : Int)) = true := by simp
        go_wp2_with (at_builtin; refine wpList_app1 rfl _ _ _ rfl _ _ _ _ elemInt _ [] _ _ rfl rfl rfl (Owns.nil _ w2.heap.size _) rfl (by simp) (by omega) (by simp) ?_; intro v1 w4 hown1 hb4 hs4)
        rw [List.nil_append] at hown1
        go_roundw
        case rel =>
          first
            | exact ⟨k + 1, [free[k]], n, by omega, by go_num, by simp, by omega, rfl, hown1, hbr3.trans hb4, by rw [Hid, hR.out, hst.out, if_pos C1.out]⟩
            | ((repeat apply Exists.intro); exact ⟨⟨k + 1, [free[k]], n, by omega, by go_num, by simp, by omega, rfl, hown1, hbr3.trans hb4, by rw [Hid, hR.out, hst.out, if_pos C1.out]⟩, rfl⟩)
        case measure => simp [intOf]; omega
      · by_cases c2 : n = m
        · have C1 := Lib.hid c1
          have hd2 : ((n : Int) == (m : Int)) = true := by simp [c2]
          have C2 := Lib.hid c2
          clear c2
          go_wp2_with (at_builtin; refine wpList_app1 rfl _ _ _ rfl _ _ _ _ elemInt _ _ _ _ rfl rfl rfl hown73 rfl (by simp; omega) (by omega) (by simp; omega) ?_; intro v1 w4 hown1 hb4 hs4)
          rw [nats_snoc] at hown1
          go_roundw
          case rel =>
            first
              | exact ⟨k + 1, _, m, by omega, by go_num, by simp; omega, hm, rfl, hown1, hbr3.trans hb4, by rw [Hid, hR.out, hst.out, if_neg C1.out, if_pos C2.out]⟩
              | ((repeat apply Exists.intro); exact ⟨⟨k + 1, _, m, by omega, by go_num, by simp; omega, hm, rfl, hown1, hbr3.trans hb4, by rw [Hid, hR.out, hst.out, if_neg C1.out, if_pos C2.out]⟩, rfl⟩)
          case measure => simp [intOf]; omega
        · have C1 := Lib.hid c1
          have hd2 : ((n : Int) == (m : Int)) = false := by rw [beq_eq_false_iff_ne]; omega
          have C2 := Lib.hid c2
          go_wp2_with fail
          go_roundw
          case rel =>
            first
              | exact ⟨k + 1, b, m, by omega, by go_num, by omega, hm, rfl, hown73, hbr3, by rw [Hid, hR.out, hst.out, if_neg C1.out, if_neg C2.out]⟩
              | ((repeat apply Exists.intro); exact ⟨⟨k + 1, b, m, by omega, by go_num, by omega, hm, rfl, hown73, hbr3, by rw [Hid, hR.out, hst.out, if_neg C1.out, if_neg C2.out]⟩, rfl⟩)
          case measure => simp [intOf]; omega
    · obtain rfl : k = free.length := by omega
      have hfin : (bc, most) = (b, m) := by rw [hR.out, List.drop_length]; rfl
      obtain ⟨rfl, rfl⟩ := Prod.mk.inj hfin
      obtain ⟨a', cap', hv⟩ := hown7.shape
      simp only [nats_length] at hv
      subst hv
      go_wp2_with fail
      go_ret3
      exact ⟨a', cap', by rw [HOK.out]; simp, hown7.mono (by omega), hbw.trans (hbr.mono (by omega))⟩

set_option maxRecDepth 100000 in
set_option maxHeartbeats 3200000 in
theorem sBestClicks_any (l : List UInt8) (w : World) (hl : l.length ≤ 1048576) :
    Calls Tryd.prog 28 #[.string ⟨l.toArray⟩] w fun e w' => ∃ a cap, e = .returned (.tuple #[.slice a (bcOf l).length cap, .int .i64 ((bcMost l : Nat) : Int), .bool (bcOK l)]) ∧ Owns w' w.heap.size 3 (.slice a (bcOf l).length cap) (nats (bcOf l)) ∧ Below w.heap.size w w' := by
  have hg0 := fun w => boGood_any l w hl
  have HOK : Hid (bcOK l = decide (0 < bcMost l)) := rfl
  have HZ := Lib.hid (bcOf_zero l)
  by_cases hg : boGoodM l = true
  · have hB := Brd.of hg
    obtain ⟨g1, g2, g3⟩ := hB.grid
    have hn64 := hB.n64
    have hfl := freeM_le (cellsM l)
    have HFL : Hid (∀ x ∈ freeM (cellsM l), x < (cellsM l).length) := freeM_lt (cellsM l)
    have hcl := fun c w hc => opClick_any l _ _ _ c w hl hB hc
    have HCL := Lib.hid hcl
    have HBC : Hid ((bcOf l, bcMost l) = bcGo (fun c => (opM (cellsM l) (headLen (splitB 47 l)) c).length) (freeM (cellsM l)) [] 0) := by
      rw [Hid, bcOf, bcMost, g3, g1]; rfl
    have hbm := fun w => boMines_any (cellsM l) 46 46 rfl w (by omega)
    rw [free_places (cellsM l) hB.sign] at hbm
    have HBM := Lib.hid hbm
    have hcs := fun w => boCells_any l w hl
    have HCS := Lib.hid hcs
    have hole := fun c => opM_le (cellsM l) (headLen (splitB 47 l)) c
    have HOL := Lib.hid hole
    rw [hg] at hg0
    have HG0 := Lib.hid hg0
    clear hg hg0 hB g1 g2 g3 hcl hbm hcs hole
    generalize bcOf l = bc at *
    generalize bcMost l = most at *
    generalize bcOK l = ok at *
    generalize cellsM l = cells at *
    generalize headLen (splitB 47 l) = W at *
    generalize freeM cells = free at *
    go_enter Tryd.func28, Tryd.ntmps28
    go_wp2_with fail
    refine (HG0.out _).mono ?_
    rintro e w1 ⟨rfl, hb1⟩
    have s1 := hb1.size
    go_wp2_with fail
    refine (HCS.out _).mono ?_
    rintro e w1' ⟨rfl, rfl⟩
    go_wp2_with fail
    refine (HBM.out _).mono ?_
    rintro e w2 ⟨a2, cap2, rfl, hown2, hb2⟩
    have s2 := hb2.size
    have hz2 := hown2.at
    have hbw := hb1.trans (hb2.mono s1)
    clear hown2 hb1 hb2
    go_wp2_with fail
    go_loopw [5, 6, 17] (fun v mo i wr => ∃ (k : Nat) (b : List Nat) (m : Nat), k ≤ free.length ∧ i = .int .i64 k ∧ b.length ≤ k ∧ m ≤ 64 ∧ mo = .int .i64 m ∧ Owns wr w2.heap.size 3 v (nats b) ∧ Below w2.heap.size w2 wr ∧ Hid ((bc, most) = bcGo (fun c => (opM cells W c).length) (free.drop k) b m)) (fun _ _ i _ => free.length - (intOf i).toNat)
    case atStart => exact ⟨0, [], 0, Nat.zero_le _, rfl, by simp, by omega, rfl, Owns.nil _ _ _, Below.refl _ _, HBC⟩
    case round =>
      obtain ⟨k, b, m, hk, rfl, hbk, hm, rfl, hown7, hbr, hR⟩ := hrel
      have sr := hbr.size
      by_cases hlt : k < free.length
      · have Ht := Lib.hid (List.drop_eq_getElem_cons hlt)
        have hxn : free[k] < cells.length := HFL.out _ (List.getElem_mem hlt)
        obtain ⟨g, off, he, hc⟩ := nats_at (hz2.later rfl hbr) k hlt
        subst he
        have hol := HOL.out free[k]
        go_wp2_with fail
        refine (HCL.out free[k] _ hxn).mono ?_
        rintro e w3 ⟨a3, cap3, rfl, _, hb3⟩
        have s3 := hb3.size
        have hown73 := hown7.later hb3
        have hbr3 := hbr.trans (hb3.mono sr)
        have hst : Hid (bcGo (fun c => (opM cells W c).length) (free.drop k) b m = if m < (opM cells W free[k]).length then bcGo (fun c => (opM cells W c).length) (free.drop (k + 1)) [free[k]] (opM cells W free[k]).length else if (opM cells W free[k]).length = m then bcGo (fun c => (opM cells W c).length) (free.drop (k + 1)) (b ++ [free[k]]) m else bcGo (fun c => (opM cells W c).length) (free.drop (k + 1)) b m) := by
          rw [Hid, Ht.out, bcGo]
        clear hc hb3
        generalize (opM cells W free[k]).length = n at *
        by_cases c1 : m < n
        · have C1 := Lib.hid c1
          have hd2 : ((n : Int) == (n : Int)) = true := by simp
          go_wp2_with (at_builtin; refine wpList_app1 rfl _ _ _ rfl _ _ _ _ elemInt _ [] _ _ rfl rfl rfl (Owns.nil _ w2.heap.size _) rfl (by simp) (by omega) (by simp) ?_; intro v1 w4 hown1 hb4 hs4)
          rw [List.nil_append] at hown1
          go_roundw
          case rel =>
            first
              | exact ⟨k + 1, [free[k]], n, by omega, by go_num, by simp, by omega, rfl, hown1, hbr3.trans hb4, by rw [Hid, hR.out, hst.out, if_pos C1.out]⟩
              | ((repeat apply Exists.intro); exact ⟨⟨k + 1, [free[k]], n, by omega, by go_num, by simp, by omega, rfl, hown1, hbr3.trans hb4, by rw [Hid, hR.out, hst.out, if_pos C1.out]⟩, rfl⟩)
          case measure => simp [intOf]; omega
        · by_cases c2 : n = m
          · have C1 := Lib.hid c1
            have hd2 : ((n : Int) == (m : Int)) = true := by simp [c2]
            have C2 := Lib.hid c2
            clear c2
            go_wp2_with (at_builtin; refine wpList_app1 rfl _ _ _ rfl _ _ _ _ elemInt _ _ _ _ rfl rfl rfl hown73 rfl (by simp; omega) (by omega) (by simp; omega) ?_; intro v1 w4 hown1 hb4 hs4)
            rw [nats_snoc] at hown1
            go_roundw
            case rel =>
              first
                | exact ⟨k + 1, _, m, by omega, by go_num, by simp; omega, hm, rfl, hown1, hbr3.trans hb4, by rw [Hid, hR.out, hst.out, if_neg C1.out, if_pos C2.out]⟩
                | ((repeat apply Exists.intro); exact ⟨⟨k + 1, _, m, by omega, by go_num, by simp; omega, hm, rfl, hown1, hbr3.trans hb4, by rw [Hid, hR.out, hst.out, if_neg C1.out, if_pos C2.out]⟩, rfl⟩)
            case measure => simp [intOf]; omega
          · have C1 := Lib.hid c1
            have hd2 : ((n : Int) == (m : Int)) = false := by rw [beq_eq_false_iff_ne]; omega
            have C2 := Lib.hid c2
            go_wp2_with fail
            go_roundw
            case rel =>
              first
                | exact ⟨k + 1, b, m, by omega, by go_num, by omega, hm, rfl, hown73, hbr3, by rw [Hid, hR.out, hst.out, if_neg C1.out, if_neg C2.out]⟩
                | ((repeat apply Exists.intro); exact ⟨⟨k + 1, b, m, by omega, by go_num, by omega, hm, rfl, hown73, hbr3, by rw [Hid, hR.out, hst.out, if_neg C1.out, if_neg C2.out]⟩, rfl⟩)
            case measure => simp [intOf]; omega
      · obtain rfl : k = free.length := by omega
        have hfin : (bc, most) = (b, m) := by rw [hR.out, List.drop_length]; rfl
        obtain ⟨rfl, rfl⟩ := Prod.mk.inj hfin
        obtain ⟨a', cap', hv⟩ := hown7.shape
        simp only [nats_length] at hv
        subst hv
        by_cases h0 : most = 0
        · have hd : ((most : Int) == 0) = true := by simp [h0]
          have HBC0 := Lib.hid (HZ.out h0)
          have H0 := Lib.hid h0
          clear h0
          go_wp2_with fail
          go_ret3
          exact ⟨none, 0, by rw [HOK.out, HBC0.out, H0.out]; rfl, by rw [HBC0.out]; exact Owns.nil _ _ _, hbw.trans (hbr.mono (by omega))⟩
        · have hd : ((most : Int) == 0) = false := by rw [beq_eq_false_iff_ne]; omega
          have HE : Hid (ok = true) := by rw [Hid, HOK.out]; simp; omega
          clear h0
          go_wp2_with fail
          go_ret3
          exact ⟨a', cap', by rw [HE.out]; rfl, hown7.mono (by omega), hbw.trans (hbr.mono (by omega))⟩
  · have hg' : boGoodM l = false := by simpa using hg
    have h0 : bcMost l = 0 := by rw [bcMost, gCells_none hg']; rfl
    have HN := Lib.hid (HZ.out h0)
    have H0 := Lib.hid h0
    rw [hg'] at hg0
    have HG0 := Lib.hid hg0
    clear hg hg' hg0 h0
    go_enter Tryd.func28, Tryd.ntmps28
    go_wp2_with fail
    refine (HG0.out _).mono ?_
    rintro e w1 ⟨rfl, hb⟩
    go_wp2_with fail
    go_ret3
    exact ⟨none, 0, by rw [HOK.out, HN.out, H0.out]; rfl, by rw [HN.out]; exact Owns.nil _ _ _, hb⟩
end Go.Proofs.YtndmkbkmfonefacDoor
