/- Opening: the cells alone, by the model. -/
import Derived.Test.YtndmkbkmfonefacDoorYI
import Derived.Outline
namespace Go.Proofs.YtndmkbkmfonefacDoor
open Go.RowKit

theorem wiM_zero (rss : List (List Nat)) (k : Nat) : ((wiM rss k).length == 0) = rss.all (fun r => !decide (k ∈ r)) := by
  rw [Bool.eq_iff_iff, beq_iff_eq, List.all_eq_true]
  unfold wiM filtM
  rw [List.length_eq_zero_iff, List.filter_eq_nil_iff]
  constructor
  · intro h r hr
    obtain ⟨i, hi, rfl⟩ := List.getElem_of_mem hr
    have := h i (List.mem_range.2 hi)
    rw [hasI_nat] at this
    simpa [List.getD, hi] using this
  · intro h i hi
    have hi' := List.mem_range.1 hi
    rw [hasI_nat]
    have := h _ (List.getElem_mem hi')
    simpa [List.getD, hi'] using this
/-- Alone, as the model asks it. -/
def alB (cells : List UInt8) (rss : List (List Nat)) (k : Nat) : Bool := (cells.getD k 0 == 46) && rss.all (fun r => !decide (k ∈ r))
theorem alB_eq (cells : List UInt8) (rss : List (List Nat)) (k : Nat) (hk : k < cells.length) (hs : ∀ c ∈ cells, c = 46 ∨ c = 42) : aloneB cells rss k = alB cells rss k := by
  unfold aloneB alB
  rw [wiM_zero, freeB_at cells k hk]
  congr 1
  have e : cells.getD k 0 = cells[k] := by simp [List.getD, hk]
  rw [e]
  rcases hs _ (List.getElem_mem hk) with h | h <;> rw [h] <;> rfl
theorem filtM_congr {p q : Nat → Bool} {n : Nat} (h : ∀ k, k < n → p k = q k) : filtM p n = filtM q n := by
  unfold filtM
  exact List.filter_congr (fun x hx => h x (List.mem_range.1 hx))

set_option maxRecDepth 100000 in
set_option maxHeartbeats 3200000 in
theorem opAlone_any (l : List UInt8) (W H : Nat) (cells : List UInt8) (w : World) (hl : l.length ≤ 1048576) (hB : Brd l W H cells) :
    Calls Tryd.prog 50 #[.string ⟨l.toArray⟩] w fun e w' => ∃ a cap, e = .returned (.slice a (aloneM cells W).length cap) ∧ Owns w' w.heap.size 3 (.slice a (aloneM cells W).length cap) (nats (aloneM cells W)) ∧ Below w.heap.size w w' := by
  have hn64 := hB.n64
  have HC := Lib.hid hB.cs
  have hsg := hB.sign
  have hall := fun w => opAll_any l W H cells w hl hB
  have HALL := Lib.hid hall
  have hrl : (openingsM cells W).length ≤ 64 := by rw [openingsM, List.length_map]; exact Nat.le_trans (firstsM_le _ _) hn64
  have HRR : Hid (∀ r ∈ openingsM cells W, r.length ≤ 64) := by
    intro r hr
    simp only [openingsM, List.mem_map] at hr
    obtain ⟨z, _, rfl⟩ := hr
    exact Nat.le_trans (opM_le _ _ _) hn64
  have HA : Hid (aloneM cells W = filtM (alB cells (openingsM cells W)) cells.length) := by
    rw [Hid, aloneM]
    exact filtM_congr (fun k hk => alB_eq cells _ k hk hsg)
  clear hB hall
  generalize openingsM cells W = rss at *
  generalize aloneM cells W = alone at *
  have HAL : Hid (∀ k, alB cells rss k = ((cells.getD k 0 == 46) && rss.all (fun r => !decide (k ∈ r)))) := fun k => rfl
  generalize alB cells rss = p at *
  go_enter Tryd.func50, Tryd.ntmps50
  go_wp2_with fail
  refine (HALL.out _).mono ?_
  rintro e w1 ⟨v1, v2, us, rfl, hus, hF, hb1⟩
  obtain ⟨av, cv, hv⟩ := hF.head.shape
  rw [hus] at hv
  subst hv
  have HUS := Lib.hid hus
  have hF1 : Fam w1 w.heap.size ((.slice av rss.length cv, 25, us) :: (rowsF us rss ++ [])) := by rw [List.append_nil]; exact hF.swap.tail
  have s1 := hb1.size
  clear hus hF
  go_wp2_with fail
  refine (boCells_any l _ hl).mono ?_
  rintro e w1' ⟨rfl, rfl⟩
  rw [HC.out]
  go_wp2_with fail
  have hI : (w1.iter ⟨cells.toArray⟩ 0).heap[w1.heap.size]? = some (.stringIter ⟨cells.toArray⟩ 0) := World.iter_heap w1 _ _
  have hb2 : Below w1.heap.size w1 (w1.iter ⟨cells.toArray⟩ 0) := (Below.refl _ _).alloc (Nat.le_refl _) _
  have hs2 : w1.heap.size < (w1.iter ⟨cells.toArray⟩ 0).heap.size := by simp [World.iter]
  have hF2 := hF1.later hb2
  have hb12 := hb1.trans (hb2.mono s1)
  generalize w1.iter ⟨cells.toArray⟩ 0 = w2 at *
  generalize hII : w1.heap.size = I at *
  have HII := Lib.hid hII
  have HF2 : ∀ wr : World, Below I w2 wr → Hid (Fam wr w.heap.size ((.slice av rss.length cv, 25, us) :: (rowsF us rss ++ []))) := by
    intro wr hbr
    refine ⟨fun x hx => ?_, hF2.apart⟩
    refine (hF2.own x hx).below (C := I) (fun k hk => ?_) hbr
    have := (hF1.own x hx).lt k hk
    omega
  clear hII hb2 hb1 hF1 hF2
  go_loopw [6] (fun v wr => ∃ k : Nat, k ≤ cells.length ∧ Hid (wr.heap[I]? = some (.stringIter ⟨cells.toArray⟩ k)) ∧ Owns wr (I + 1) 3 v (nats (filtM p k)) ∧ Below I w2 wr) (fun _ wr => cells.length - wr.iterPos I)
  case atStart => exact ⟨0, Nat.zero_le _, hI, Owns.nil _ _ _, Below.refl _ _⟩
  case round =>
    obtain ⟨k, hk, hIr, hown, hb⟩ := hrel
    have hIlt := block_lt hIr.out
    have hle := filtM_le p k
    by_cases hlt : k < cells.length
    · have hasc := sign_ascii (hsg _ (List.getElem_mem hlt))
      have hnx := fun ty => Lib.run_next_ascii_at (P := Tryd.prog) wr I ⟨cells.toArray⟩ k ty hIr.out (by simpa [ByteArray.size] using hlt) (by simpa using hasc)
      have hpos := Lib.hid (iterPos_at hIr.out)
      have i1 := iterAt_at hIlt ⟨cells.toArray⟩ (k + 1)
      have i2 := iterAt_below wr I ⟨cells.toArray⟩ (k + 1)
      have i3 := iterAt_size wr I ⟨cells.toArray⟩ (k + 1)
      have i4 := hown.iter I ⟨cells.toArray⟩ (k + 1) (by omega)
      have q := byte_beq cells[k] 46 (by omega)
      have hgd : cells.getD k 0 = cells[k] := by simp [List.getD, hlt]
      have hP0 : Hid (p k = ((cells[k] == 46) && rss.all (fun r => !decide (k ∈ r)))) := by rw [Hid, HAL.out k, hgd]
      have hd : Hid (((cells[k].toNat : Int) == 46) = (cells[k] == 46)) := by rw [Hid, show (46 : Int) = ((46 : Nat) : Int) from rfl, q]; rfl
      clear q hgd
      go_wp2_with fail
      clear hnx
      have i2' := hb.trans i2
      have I1 := Lib.hid i1
      clear i1
      generalize wr.iterAt I ⟨cells.toArray⟩ (k + 1) = wi at *
      have hFi := HF2 wi i2'
      have hwi : I + 1 ≤ wi.heap.size := by omega
      clear i3
      go_loop [8, 29] (fun b j => ∃ (m : Nat) (x : Bool), m ≤ rss.length ∧ j = .int .i64 m ∧ b = .bool x ∧ Hid (p k = (x && (rss.drop m).all (fun r => !decide (k ∈ r))))) (fun _ j => rss.length - (intOf j).toNat)
      case atStart => exact ⟨0, _, Nat.zero_le _, rfl, rfl, by rw [Hid, hP0.out, ← hd.out]; rfl⟩
      case round =>
        obtain ⟨m, x, hm, rfl, rfl, hX⟩ := hrel
        by_cases hmt : m < rss.length
        · have Ht := Lib.hid (List.drop_eq_getElem_cons hmt)
          obtain ⟨g, off, ar, cr, rfl, hc, ho⟩ := hFi.out.row HUS.out m hmt
          have hrk := HRR.out _ (List.getElem_mem hmt)
          cases x with
          | false =>
            go_wp2_with fail
            go_round
            case rel =>
              first
                | exact ⟨m + 1, false, by omega, by go_num, rfl, by rw [Hid, hX.out]; rfl⟩
                | ((repeat apply Exists.intro); exact ⟨⟨m + 1, false, by omega, by go_num, rfl, by rw [Hid, hX.out]; rfl⟩, rfl⟩)
            case measure => simp [intOf]; omega
          | true =>
            have hHas := l1HasN_any rss[m] k ar cr wi ho.at (by omega)
            cases hin : decide (k ∈ rss[m]) with
            | false =>
              rw [hin] at hHas
              have HIN := Lib.hid hin
              have HH := Lib.hid hHas
              clear hin hHas
              go_wp2_with fail
              refine HH.out.mono ?_
              rintro e w5 ⟨rfl, rfl⟩
              go_wp2_with fail
              go_round
              case rel =>
                first
                  | exact ⟨m + 1, true, by omega, by go_num, rfl, by rw [Hid, hX.out, Ht.out, List.all_cons, HIN.out]; simp⟩
                  | ((repeat apply Exists.intro); exact ⟨⟨m + 1, true, by omega, by go_num, rfl, by rw [Hid, hX.out, Ht.out, List.all_cons, HIN.out]; simp⟩, rfl⟩)
              case measure => simp [intOf]; omega
            | true =>
              rw [hin] at hHas
              have HIN := Lib.hid hin
              have HH := Lib.hid hHas
              clear hin hHas
              go_wp2_with fail
              refine HH.out.mono ?_
              rintro e w5 ⟨rfl, rfl⟩
              go_wp2_with fail
              go_round
              case rel =>
                first
                  | exact ⟨m + 1, false, by omega, by go_num, rfl, by rw [Hid, hX.out, Ht.out, List.all_cons, HIN.out]; simp⟩
                  | ((repeat apply Exists.intro); exact ⟨⟨m + 1, false, by omega, by go_num, rfl, by rw [Hid, hX.out, Ht.out, List.all_cons, HIN.out]; simp⟩, rfl⟩)
              case measure => simp [intOf]; omega
        · obtain rfl : m = rss.length := by omega
          have hpx : p k = x := by rw [hX.out, List.drop_length]; simp
          cases x with
          | true =>
            have HPX := Lib.hid hpx
            clear hpx
            go_wp2_with (at_builtin; refine wpList_app1 rfl _ _ _ rfl _ _ _ _ elemInt _ _ _ _ rfl rfl rfl i4 rfl (by simp; omega) (by omega) (by simp; omega) ?_; intro v1 w4 hown1 hb4 hs4)
            rw [nats_snoc, ← filtM_yes HPX.out] at hown1
            have i6 := (hb4.block I (by omega)).trans I1.out
            have ip := Lib.hid (iterPos_at i6)
            have I6 := Lib.hid i6
            clear i6
            go_roundw
            case rel =>
              first
                | exact ⟨k + 1, by omega, I6, hown1, i2'.trans (hb4.mono (by omega))⟩
                | ((repeat apply Exists.intro); exact ⟨⟨k + 1, by omega, I6, hown1, i2'.trans (hb4.mono (by omega))⟩, rfl⟩)
            case measure => rw [hpos.out, ip.out]; omega
          | false =>
            have HPX := Lib.hid hpx
            clear hpx
            have ip := Lib.hid (iterPos_at I1.out)
            go_wp2_with fail
            go_roundw
            case rel =>
              first
                | exact ⟨k + 1, by omega, I1, by rw [filtM_no HPX.out]; exact i4, i2'⟩
                | ((repeat apply Exists.intro); exact ⟨⟨k + 1, by omega, I1, by rw [filtM_no HPX.out]; exact i4, i2'⟩, rfl⟩)
            case measure => rw [hpos.out, ip.out]; omega
    · obtain rfl : k = cells.length := by omega
      have hnx := fun ty => Lib.run_next_end_at (P := Tryd.prog) wr I ⟨cells.toArray⟩ cells.length ty hIr.out (by simp [ByteArray.size])
      go_wp2_with fail
      go_ret
      rw [← HA.out] at hown
      obtain ⟨a', cap', hv⟩ := hown.shape
      simp only [nats_length] at hv
      exact ⟨a', cap', by rw [← hv]; rfl, by rw [← hv]; exact hown.mono (by omega), hb12.trans (hb.mono s1)⟩

set_option maxRecDepth 100000 in
set_option maxHeartbeats 800000 in
theorem sCellsAlone_any (l : List UInt8) (w : World) (hl : l.length ≤ 1048576) :
    Calls Tryd.prog 20 #[.string ⟨l.toArray⟩] w fun e w' => ∃ a cap, e = .returned (.tuple #[.slice a (aloneOf l).length cap, .bool (boGoodM l)]) ∧ Owns w' w.heap.size 3 (.slice a (aloneOf l).length cap) (nats (aloneOf l)) ∧ Below w.heap.size w w' := by
  have hg0 := fun w => boGood_any l w hl
  by_cases hg : boGoodM l = true
  · have hB := Brd.of hg
    obtain ⟨g1, g2, g3⟩ := hB.grid
    have hca := fun w => opAlone_any l _ _ _ w hl hB
    rw [show aloneM (cellsM l) (headLen (splitB 47 l)) = aloneOf l by rw [aloneOf, g3, g1]] at hca
    rw [hg] at hg0
    have HG := Lib.hid hg
    have HG0 := Lib.hid hg0
    have HCA := Lib.hid hca
    clear hg hg0 hca hB g1 g2 g3
    go_enter Tryd.func20, Tryd.ntmps20
    go_wp2_with fail
    refine (HG0.out _).mono ?_
    rintro e w1 ⟨rfl, hb⟩
    go_wp2_with fail
    refine (HCA.out _).mono ?_
    rintro e w2 ⟨a, cap, rfl, hown2, hb2⟩
    go_wp2_with fail
    go_ret2
    exact ⟨a, cap, by rw [HG.out]; rfl, hown2.mono hb.size, hb.trans (hb2.mono hb.size)⟩
  · have hg' : boGoodM l = false := by simpa using hg
    have hN := Lib.hid (aloneOf_none hg')
    rw [hg'] at hg0
    have HG := Lib.hid hg'
    have HG0 := Lib.hid hg0
    clear hg hg' hg0
    go_enter Tryd.func20, Tryd.ntmps20
    go_wp2_with fail
    refine (HG0.out _).mono ?_
    rintro e w1 ⟨rfl, hb⟩
    go_wp2_with fail
    go_ret2
    exact ⟨none, 0, by rw [HG.out, hN.out]; rfl, by rw [hN.out]; exact Owns.nil _ _ _, hb⟩
end Go.Proofs.YtndmkbkmfonefacDoor
