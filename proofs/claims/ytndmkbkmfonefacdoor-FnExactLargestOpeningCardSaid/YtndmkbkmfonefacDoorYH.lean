/- Opening: the largest opening, by the program and by the model. -/
import Derived.Test.YtndmkbkmfonefacDoorYG
import Derived.Outline
namespace Go.Proofs.YtndmkbkmfonefacDoor
open Go.RowKit

/-- The first one of the longest rows, if it is longer than what is at hand. -/
def lgGo : List (List Nat) → List Nat → List Nat
  | [], b => b
  | r :: rs, b => if b.length < r.length then lgGo rs r else lgGo rs b
theorem lgGo_ge : ∀ (rs : List (List Nat)) (b : List Nat), b.length ≤ (lgGo rs b).length
  | [], _ => Nat.le_refl _
  | r :: rs, b => by
    unfold lgGo
    split
    · have := lgGo_ge rs r; omega
    · exact lgGo_ge rs b
theorem lgGo_le {m : Nat} : ∀ (rs : List (List Nat)) (b : List Nat), b.length ≤ m → (∀ r ∈ rs, r.length ≤ m) → (lgGo rs b).length ≤ m
  | [], _, h, _ => h
  | r :: rs, b, h, h2 => by
    unfold lgGo
    split
    · exact lgGo_le rs r (h2 r List.mem_cons_self) (fun x hx => h2 x (List.mem_cons_of_mem _ hx))
    · exact lgGo_le rs b h (fun x hx => h2 x (List.mem_cons_of_mem _ hx))
theorem opM_self (cells : List UInt8) (W c : Nat) (hc : c < cells.length) : c ∈ opM cells W c := by
  rw [opM, mem_sortM (bfs_lt (nearM_lts W cells.length) hc), bfs0_mem (nearM_lts W cells.length) hc]
  exact .start
theorem opsOf_pos (l : List UInt8) : ∀ r ∈ opsOf l, 0 < r.length := by
  intro r hr
  simp only [opsOf, openingsM, List.mem_map] at hr
  obtain ⟨z, hz, rfl⟩ := hr
  exact List.length_pos_of_mem (opM_self _ _ z (firstsM_lt _ _ z hz))
/-- What LargestOpening hands back. -/
def lgOf (l : List UInt8) : List Nat := lgGo (opsOf l) []
def lgOK (l : List UInt8) : Bool := decide (0 < (lgOf l).length)
theorem lgOf_len (l : List UInt8) : (lgOf l).length ≤ 1048576 := Nat.le_trans (lgGo_le (m := 64) _ _ (by simp) (opsOf_row l)) (by decide)
theorem lgOf_none {l : List UInt8} (h : opsOf l = []) : lgOf l = [] := by rw [lgOf, h]; rfl
theorem lgOf_first (l : List UInt8) (h : 0 < (opsOf l).length) : lgOf l = lgGo (opsOf l) (opsOf l)[0] ∧ 0 < (lgOf l).length := by
  have hp := opsOf_pos l
  unfold lgOf
  generalize opsOf l = rs at *
  cases rs with
  | nil => simp at h
  | cons r rs =>
    have h0 := hp r List.mem_cons_self
    have e1 : lgGo (r :: rs) [] = lgGo rs r := by rw [lgGo, if_pos (by simpa using h0)]
    have e2 : lgGo (r :: rs) (r :: rs)[0] = lgGo rs r := by rw [lgGo]; simp
    rw [e1, e2]
    exact ⟨rfl, Nat.lt_of_lt_of_le h0 (lgGo_ge rs r)⟩

set_option maxRecDepth 100000 in
set_option maxHeartbeats 1600000 in
theorem iLargestOpening_any (l : List UInt8) (w : World) (hM : HasMax w) (hl : l.length ≤ 1048576) :
    Calls Tryd.prog 27 #[.string ⟨l.toArray⟩] w fun e w' => ∃ a cap, e = .returned (.tuple #[.slice a (lgOf l).length cap, .bool (lgOK l)]) ∧ Owns w' w.heap.size 3 (.slice a (lgOf l).length cap) (nats (lgOf l)) ∧ Below w.heap.size w w' := by
  have hgl := gCells_le l
  have hop := fun (w : World) a cap (h : At w a (byts (gCells l))) => openings_any (gW l) (gH l) a (gCells l) cap w h hgl (gW_pos l)
  rw [show openingsM (gCells l) (gW l) = opsOf l from rfl] at hop
  have HOP := Lib.hid hop
  have hrow := Lib.hid (opsOf_row l)
  have hrl : (opsOf l).length ≤ 64 := by rw [opsOf_length]; exact fstOf_le l
  have HLG : Hid (lgOf l = lgGo (opsOf l) []) := rfl
  have HOK : Hid (lgOK l = decide (0 < (lgOf l).length)) := rfl
  have hlg := lgOf_len l
  clear hop
  generalize opsOf l = rss at *
  generalize lgOf l = lg at *
  generalize lgOK l = ok at *
  go_enter Tryd.func27, Tryd.ntmps27
  go_wp2_with fail
  refine (readBoard_any l _ hM hl).mono ?_
  rintro e w1 ⟨a, cap, rfl, hown, hb⟩
  have s1 := hb.size
  have hat : ∀ o, At (w1.alloc o) a (byts (gCells l)) := fun o => (hown.at).later rfl ((Below.refl _ _).alloc (Nat.le_refl _) _)
  go_wp2_with fail
  refine (HOP.out _ a cap (hat _)).mono ?_
  rintro e w2 ⟨v, us, rfl, hus, hF, hb2⟩
  have hbw := (hb.alloc s1 (.cells #[.int .i64 (gW l), .int .i64 (gH l), .slice a (gCells l).length cap, .bool false] 42)).trans (hb2.mono (by simp; omega))
  obtain ⟨a1, cap1, hv⟩ := hF.head.shape
  rw [hus] at hv
  subst hv
  have HUS := Lib.hid hus
  have hF' := hF.mono (B' := w.heap.size) (by simp; omega)
  have hF2 : Fam w2 w.heap.size ((.slice a1 rss.length cap1, 25, us) :: (rowsF us rss ++ [])) := by rw [List.append_nil]; exact hF'
  clear hus hF hF' hb2
  go_wp2_with fail
  go_loop [6, 17] (fun v6 i => ∃ (k : Nat) (best : List Nat), k ≤ rss.length ∧ i = .int .i64 k ∧ best.length ≤ 64 ∧ Owns w2 w.heap.size 3 v6 (nats best) ∧ Hid (lg = lgGo (rss.drop k) best)) (fun _ i => rss.length - (intOf i).toNat)
  case atStart => exact ⟨0, [], Nat.zero_le _, rfl, by simp, Owns.nil _ _ _, HLG⟩
  case round =>
    obtain ⟨k, best, hk, rfl, hbl, hown6, hR⟩ := hrel
    obtain ⟨a6, cap6, hv⟩ := hown6.shape
    simp only [nats_length] at hv
    subst hv
    by_cases hlt : k < rss.length
    · have Ht := Lib.hid (List.drop_eq_getElem_cons hlt)
      obtain ⟨g, off, ar, cr, rfl, hc, ho⟩ := hF2.row HUS.out k hlt
      have hrk := hrow.out _ (List.getElem_mem hlt)
      by_cases hcmp : best.length < rss[k].length
      · have HC := Lib.hid hcmp
        go_wp2_with fail
        go_round
        case rel => exact ⟨k + 1, rss[k], by omega, by go_num, hrk, ho, by rw [Hid, hR.out, Ht.out, lgGo, if_pos HC.out]⟩
        case measure => simp [intOf]; omega
      · have HC := Lib.hid hcmp
        go_wp2_with fail
        go_round
        case rel => exact ⟨k + 1, best, by omega, by go_num, hbl, hown6, by rw [Hid, hR.out, Ht.out, lgGo, if_neg HC.out]⟩
        case measure => simp [intOf]; omega
    · obtain rfl : k = rss.length := by omega
      have hfin : lg = best := by rw [hR.out, List.drop_length]; rfl
      subst hfin
      go_wp2_with fail
      go_ret2
      exact ⟨a6, cap6, by rw [HOK.out]; simp, hown6, hbw⟩

set_option maxRecDepth 100000 in
set_option maxHeartbeats 1600000 in
theorem sLargestOpening_any (l : List UInt8) (w : World) (hl : l.length ≤ 1048576) :
    Calls Tryd.prog 26 #[.string ⟨l.toArray⟩] w fun e w' => ∃ a cap, e = .returned (.tuple #[.slice a (lgOf l).length cap, .bool (lgOK l)]) ∧ Owns w' w.heap.size 3 (.slice a (lgOf l).length cap) (nats (lgOf l)) ∧ Below w.heap.size w w' := by
  have hg0 := fun w => boGood_any l w hl
  have HOK : Hid (lgOK l = decide (0 < (lgOf l).length)) := rfl
  by_cases hg : boGoodM l = true
  · have hB := Brd.of hg
    obtain ⟨g1, g2, g3⟩ := hB.grid
    have hall := fun w => opAll_any l _ _ _ w hl hB
    have he : openingsM (cellsM l) (headLen (splitB 47 l)) = opsOf l := by rw [opsOf, g3, g1]
    rw [he] at hall
    rw [hg] at hg0
    have HG := Lib.hid hg
    have HG0 := Lib.hid hg0
    have HALL := Lib.hid hall
    have hrow := Lib.hid (opsOf_row l)
    have hrl : (opsOf l).length ≤ 64 := by rw [opsOf_length]; exact fstOf_le l
    have HN := Lib.hid (fun h => lgOf_none (l := l) h)
    have H1 := Lib.hid (lgOf_first l)
    clear hg hg0 hall hB g1 g2 g3 he
    generalize opsOf l = rss at *
    generalize lgOf l = lg at *
    generalize lgOK l = ok at *
    go_enter Tryd.func26, Tryd.ntmps26
    go_wp2_with fail
    refine (HG0.out _).mono ?_
    rintro e w1 ⟨rfl, hb⟩
    go_wp2_with fail
    refine (HALL.out _).mono ?_
    rintro e w2 ⟨v1, v2, us, rfl, hus, hF, hb2⟩
    obtain ⟨a1, cap1, hv⟩ := hF.head.shape
    rw [hus] at hv
    subst hv
    have HUS := Lib.hid hus
    have hbw := hb.trans (hb2.mono hb.size)
    have hF' := (hF.swap.tail).mono (B' := w.heap.size) hb.size
    have hF2 : Fam w2 w.heap.size ((.slice a1 rss.length cap1, 25, us) :: (rowsF us rss ++ [])) := by rw [List.append_nil]; exact hF'
    clear hus hF hF' hb2 hb
    by_cases h0 : rss.length = 0
    · have hd : ((rss.length : Int) == 0) = true := by simp [h0]
      have hlg : lg = [] := HN.out (List.eq_nil_of_length_eq_zero h0)
      have HLG := Lib.hid hlg
      clear h0 hlg
      go_wp2_with fail
      go_ret2
      exact ⟨none, 0, by rw [HOK.out, HLG.out]; rfl, by rw [HLG.out]; exact Owns.nil _ _ _, hbw⟩
    · have hd : ((rss.length : Int) == 0) = false := by rw [beq_eq_false_iff_ne]; omega
      have hpos : 0 < rss.length := by omega
      obtain ⟨e1, e2⟩ := H1.out hpos
      have E1 := Lib.hid e1
      have E2 := Lib.hid e2
      clear h0 e1 e2 HN H1
      obtain ⟨g, off, ar, cr, rfl, hc, ho0⟩ := hF2.row HUS.out 0 hpos
      rw [Nat.add_zero] at hc
      have hr0 := hrow.out _ (List.getElem_mem hpos)
      go_wp2_with fail
      go_loop [6, 25] (fun v6 i => ∃ (k : Nat) (best : List Nat), k ≤ rss.length ∧ i = .int .i64 k ∧ best.length ≤ 64 ∧ Owns w2 w.heap.size 3 v6 (nats best) ∧ Hid (lg = lgGo (rss.drop k) best)) (fun _ i => rss.length - (intOf i).toNat)
      case atStart => exact ⟨0, rss[0], Nat.zero_le _, rfl, hr0, ho0, E1⟩
      case round =>
        obtain ⟨k, best, hk, rfl, hbl, hown6, hR⟩ := hrel
        obtain ⟨a6, cap6, hv⟩ := hown6.shape
        simp only [nats_length] at hv
        subst hv
        by_cases hlt : k < rss.length
        · have Ht := Lib.hid (List.drop_eq_getElem_cons hlt)
          obtain ⟨g', off', ar', cr', he', hc', ho⟩ := hF2.row HUS.out k hlt
          simp only [Option.some.injEq, Addr.mk.injEq, and_true] at he'
          obtain ⟨rfl, rfl⟩ := he'
          have hrk := hrow.out _ (List.getElem_mem hlt)
          clear hc
          by_cases hcmp : best.length < rss[k].length
          · have HC := Lib.hid hcmp
            go_wp2_with fail
            go_round
            case rel => exact ⟨k + 1, rss[k], by omega, by go_num, hrk, ho, by rw [Hid, hR.out, Ht.out, lgGo, if_pos HC.out]⟩
            case measure => simp [intOf]; omega
          · have HC := Lib.hid hcmp
            go_wp2_with fail
            go_round
            case rel => exact ⟨k + 1, best, by omega, by go_num, hbl, hown6, by rw [Hid, hR.out, Ht.out, lgGo, if_neg HC.out]⟩
            case measure => simp [intOf]; omega
        · obtain rfl : k = rss.length := by omega
          have hfin : lg = best := by rw [hR.out, List.drop_length]; rfl
          subst hfin
          clear hc
          go_wp2_with fail
          go_ret2
          exact ⟨a6, cap6, by rw [HOK.out, show decide (0 < lg.length) = true by simpa using E2.out]; rfl, hown6, hbw⟩
  · have hg' : boGoodM l = false := by simpa using hg
    have hN := Lib.hid (lgOf_none (opsOf_none hg'))
    rw [hg'] at hg0
    have HG0 := Lib.hid hg0
    clear hg hg' hg0
    go_enter Tryd.func26, Tryd.ntmps26
    go_wp2_with fail
    refine (HG0.out _).mono ?_
    rintro e w1 ⟨rfl, hb⟩
    go_wp2_with fail
    go_ret2
    exact ⟨none, 0, by rw [HOK.out, hN.out]; rfl, by rw [hN.out]; exact Owns.nil _ _ _, hb⟩
end Go.Proofs.YtndmkbkmfonefacDoor
