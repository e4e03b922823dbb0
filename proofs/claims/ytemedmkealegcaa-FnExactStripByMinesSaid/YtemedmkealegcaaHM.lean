/- Strips: how many lists fit with 0, 1, .. mines. -/
import Derived.Test.YtemedmkealegcaaHI
import Derived.Lib.SliceRun
namespace Go.Proofs.Ytemedmkealegcaa
open Go.RowKit

/-- How many lists fit, by their mines, up to as many as there are cells. -/
def sbmL (l : List UInt8) : List Nat := if stM l = true then (List.range (l.length + 1)).map (cwT l) else []
theorem sbm_yes {l : List UInt8} (h : stM l = true) : sbmL l = (List.range (l.length + 1)).map (cwT l) := by rw [sbmL, if_pos h]
theorem sbm_no {l : List UInt8} (h : stM l = false) : sbmL l = [] := by rw [sbmL, h]; rfl
theorem sbmL_len (l : List UInt8) : (sbmL l).length ≤ 1048576 := by
  cases h : stM l with
  | true => have := (stM_facts h).2.1; rw [sbm_yes h]; simp; omega
  | false => rw [sbm_no h]; decide
theorem nats_range (f : Nat → Nat) (k : Nat) : nats ((List.range (k + 1)).map f) = nats ((List.range k).map f) ++ [.int .i64 ((f k : Nat) : Int)] := by
  rw [nats_snoc, List.range_succ, List.map_append]; rfl
theorem wvL_take (f : Nat → Nat) {n : Nat} (h : n ≤ 41) : (wvL f).take n = nats ((List.range n).map f) := by
  apply List.ext_getElem?
  intro i
  simp only [wvL, nats, ints, List.map_map, List.getElem?_take, List.getElem?_map]
  by_cases hi : i < n
  · rw [if_pos hi, List.getElem?_range (by omega), List.getElem?_range hi]; rfl
  · rw [if_neg hi, List.getElem?_eq_none (by simp; omega)]; rfl

set_option maxRecDepth 100000 in
set_option maxHeartbeats 1600000 in
theorem sStripByMines_any (l : List UInt8) (w : World) (hl : l.length ≤ 1048576) :
    Calls Try.prog 30 #[.string ⟨l.toArray⟩] w fun e w' => ∃ a cap, e = .returned (.tuple #[.slice a (sbmL l).length cap, .bool (stM l)]) ∧ Owns w' w.heap.size 3 (.slice a (sbmL l).length cap) (nats (sbmL l)) ∧ Below w.heap.size w w' := by
  have hgd := fun w => stGood_any l w hl
  cases hg : stM l with
  | false =>
    rw [hg] at hgd
    have HG := Lib.hid hgd
    rw [sbm_no hg]
    clear hgd hg
    go_enter Try.func30, Try.ntmps30
    go_wp2_with fail
    refine (HG.out _).mono ?_
    rintro e w1 ⟨rfl, hb1⟩
    go_wp2_with fail
    go_ret2
    exact ⟨none, 0, rfl, Owns.nil _ _ _, hb1⟩
  | true =>
    obtain ⟨hn1, hn40, _⟩ := stM_facts hg
    have hA := fun w => stFrom_any l hg [] (Nat.zero_le _) w
    simp only [List.map_nil] at hA
    rw [← cwT_yes hg] at hA
    have HA := Lib.hid hA
    rw [hg] at hgd
    have HG := Lib.hid hgd
    rw [sbm_yes hg, List.length_map, List.length_range]
    have hz := fun w => wvZero61 w
    generalize cwT l = f at *
    clear hgd hg hA
    go_enter Try.func30, Try.ntmps30
    go_wp2_with fail
    refine (HG.out _).mono ?_
    rintro e w1 ⟨rfl, hb1⟩
    go_wp2_with fail
    refine (HA.out _).mono ?_
    rintro e w2 ⟨rfl, hb2⟩
    have hR := heap_alloc_new w2 (.cells (wvA fun _ => 0) 58)
    go_upto_region 5 with (first
      | (refine wpList_store_row rfl _ _ _ rfl (w2.heap.size) (wvA f) rfl rfl 58 _ hR (wvInfoA61 _) (by simp only [wvA_size]) (wvA_one _) ?_))
    have hB := setRow_heap (w2.alloc (.cells (wvA fun _ => 0) 58)) w2.heap.size _ (wvA f) _ _ hR
    have hb3 : Below w2.heap.size w2 ((w2.alloc (.cells (wvA fun _ => 0) 58)).setRow w2.heap.size (wvA f)) := below_setRow ((Below.refl _ _).alloc (Nat.le_refl _) _) (Nat.le_refl _) _
    have hb03 := (hb1.trans (hb2.mono hb1.size)).trans (hb3.mono (by have := hb1.size; have := hb2.size; omega))
    clear hR
    generalize (w2.alloc (.cells (wvA fun _ => 0) 58)).setRow w2.heap.size (wvA f) = w3 at *
    have hws := hb1.size
    have hws2 := hb2.size
    have HW := Lib.hid (show w.heap.size ≤ w2.heap.size by omega)
    generalize w2.heap.size = R at *
    have hR3 := block_lt hB
    have HB := Lib.hid hB
    clear hB
    go_wp2_with fail
    go_loopw [4, 6] (fun o v wr => ∃ (k : Nat), k ≤ l.length + 1 ∧ v = .int .i64 k ∧ Owns wr (R + 1) 3 o (nats ((List.range k).map f)) ∧ Below (R + 1) w3 wr) (fun _ v _ => l.length + 1 - (intOf v).toNat)
    case atStart => exact ⟨0, Nat.zero_le _, rfl, Owns.nil _ _ _, Below.refl _ _⟩
    case round =>
      obtain ⟨k, hk, rfl, hown, hb⟩ := hrel
      by_cases hlt : k ≤ l.length
      · have hBr := (hb.block R (by omega)).trans HB.out
        have hcl := cell_of_block hBr k
        rw [wvA_get f (by omega)] at hcl
        have hia : ∀ w, (Instr.indexAt 58 (.pointer (some ⟨R, 0, none⟩)) (.int .i64 (k : Int))).run Try.prog w = .ok (.pointer (some ⟨R, k, none⟩)) w := fun w => by
          simp [Instr.indexAt, run_underlying Try.underlying58, Instr.sureAddr, asIntOf, Try.sizeOf3, Addr.add_lit]
          omega
        have hlz : (k : Int) ≤ (l.length : Int) := by omega
        have HNX := Lib.hid (nats_range f k)
        clear hBr
        go_wp2_with (at_builtin; refine wpList_app1 rfl _ _ _ rfl _ _ _ _ elemInt _ _ _ _ rfl rfl rfl hown rfl (by simp; omega) (by have := hb.size; omega) (by simp; omega) ?_; intro v1 w4 hown1 hb4 hs4)
        go_roundw
        case rel => exact ⟨k + 1, by omega, by go_num, by rw [HNX.out]; exact hown1, hb.trans hb4⟩
        case measure => simp [intOf]; omega
      · obtain rfl : k = l.length + 1 := by omega
        have hlz : ¬ l.length + 1 ≤ l.length := by omega
        have hlz2 : ¬ ((l.length + 1 : Nat) : Int) ≤ (l.length : Int) := by omega
        obtain ⟨a, cap, hv⟩ := hown.shape
        subst hv
        simp only [nats_length, List.length_map, List.length_range] at hown
        go_wp2_with fail
        go_ret2
        refine ⟨a, cap, rfl, by have ho := hown.mono (B' := w.heap.size) (by have := HW.out; omega); rw [List.range_succ, List.map_append] at ho; exact ho, hb03.trans (hb.mono (by have := HW.out; omega))⟩

set_option maxRecDepth 100000 in
set_option maxHeartbeats 1600000 in
/-- A copy of the first numbers of a row. -/
theorem cloneRow_any (f : Nat → Nat) (b n c : Nat) (t : TypeId) (fr : Nat × Nat) (w : World) (hn : n ≤ 41) (hB : w.heap[b]? = some (.cells (wvA f) t fr)) :
    Calls Try.prog 62 #[.slice (some ⟨b, 0, none⟩) n c] w fun e w' => ∃ a cap, e = .returned (.slice a n cap) ∧ Owns w' w.heap.size 3 (.slice a n cap) (nats ((List.range n).map f)) ∧ Below w.heap.size w w' := by
  obtain ⟨i, hi, hz, hsz, hby⟩ := elemInt.info
  have hq : ∀ (w : World) (a : Option Addr) (n c n' c' : Nat), (binOp .eql 28 (.slice a n c) (.slice none n' c')).run Try.prog w = .ok (.bool a.isNone) w := fun w a n c n' c' => Lib.run_eql_slice_nil w _ _ a n c n' c' Try.underlying28
  have HT := Lib.hid (wvL_take f hn)
  have hlen : (nats ((List.range n).map f)).length = n := by simp
  have HCL : Hid (∀ j u, (nats ((List.range n).map f))[j]? = some u → w.cell? ⟨b, j, none⟩ = some u) := fun j u hj => by
    rw [cell_of_block hB, wvA, List.getElem?_toArray]
    rw [← HT.out, List.getElem?_take] at hj
    split at hj
    · exact hj
    · simp at hj
  clear hB
  go_enter Try.func62, Try.ntmps62
  go_wp2_with (at_builtin; refine wpList_append_own _ rfl _ _ 28 rfl w.heap.size 3 i (.int .i64 0) 1 8 elemInt.und hi hz hsz hby elemInt.one (by decide) _ _ _ rfl (World.ownsRow_made w #[] 0 (Nat.le_refl _) (Nat.zero_le _) rfl) ⟨b, 0, none⟩ n c (nats ((List.range n).map f)) rfl ?q1 ?q2 ?q3 ?q4 ?q5 ?q6 ?_)
  case q1 => rw [hlen, Nat.mul_one]
  case q2 =>
    intro j u hj
    rw [Addr.add_lit, Nat.zero_add]
    exact Lib.cell?_alloc_some _ (HCL.out j u hj)
  case q3 => intro u hu; obtain ⟨x, _, rfl⟩ := List.mem_map.1 hu; rfl
  case q4 => unfold maxLen; omega
  case q5 => omega
  case q6 => simp
  intro v' w1 hown hgrow hnil
  have hown2 : Owns w1 w.heap.size 3 v' (nats ((List.range n).map f)) := by
    rw [Owns, hlen]
    simpa using hown
  have hbb : Below w.heap.size w w1 := ((Below.refl _ w).alloc (Nat.le_refl _) _).grown hgrow (by simp) (by intro k hk; simp [Value.ownBlock] at hk; omega)
  obtain ⟨a, cap, hv⟩ := hown2.shape
  rw [hlen] at hv
  subst hv
  clear hown hgrow hnil
  go_wp2_with fail
  go_ret
  exact ⟨a, cap, rfl, hown2, hbb⟩

set_option maxRecDepth 100000 in
set_option maxHeartbeats 1600000 in
theorem iStripByMines_any (l : List UInt8) (w : World) (hl : l.length ≤ 1048576) :
    Calls Try.prog 31 #[.string ⟨l.toArray⟩] w fun e w' => ∃ a cap, e = .returned (.tuple #[.slice a (sbmL l).length cap, .bool (stM l)]) ∧ Owns w' w.heap.size 3 (.slice a (sbmL l).length cap) (nats (sbmL l)) ∧ Below w.heap.size w w' := by
  have hrw := fun w => readWays_any l w hl
  have hz := fun w => wvZero w
  cases hg : stM l with
  | false =>
    rw [hg] at hrw
    have HRW := Lib.hid hrw
    rw [sbm_no hg]
    generalize cwT l = f at *
    clear hrw hg
    go_enter Try.func31, Try.ntmps31
    go_wp2_with fail
    refine (HRW.out _).mono ?_
    rintro e w1 ⟨rfl, hb1⟩
    have hA := heap_alloc_new w1 (.cells (wvA fun _ => 0) 59)
    go_upto_region 2 with (first
      | (refine wpList_store_row rfl _ _ _ rfl (w1.heap.size) (wvA f) rfl rfl 59 _ hA (wvInfoA _) (by simp only [wvA_size]) (wvA_one _) ?_))
    have hb2 : Below w1.heap.size w1 ((w1.alloc (.cells (wvA fun _ => 0) 59)).setRow w1.heap.size (wvA f)) := below_setRow ((Below.refl _ _).alloc (Nat.le_refl _) _) (Nat.le_refl _) _
    clear hA
    generalize (w1.alloc (.cells (wvA fun _ => 0) 59)).setRow w1.heap.size (wvA f) = w2 at *
    go_wp2_with fail
    go_ret2
    exact ⟨none, 0, rfl, Owns.nil _ _ _, hb1.trans (hb2.mono hb1.size)⟩
  | true =>
    obtain ⟨hn1, hn40, _⟩ := stM_facts hg
    rw [hg] at hrw
    have HRW := Lib.hid hrw
    rw [sbm_yes hg, List.length_map, List.length_range]
    generalize cwT l = f at *
    clear hrw hg
    have hsl := fun b w' => slice41 b (l.length + 1) (by omega) w'
    rw [show ((l.length + 1 : Nat) : Int) = (l.length : Int) + 1 from rfl] at hsl
    go_enter Try.func31, Try.ntmps31
    go_wp2_with fail
    refine (HRW.out _).mono ?_
    rintro e w1 ⟨rfl, hb1⟩
    have hA := heap_alloc_new w1 (.cells (wvA fun _ => 0) 59)
    go_upto_region 2 with (first
      | (refine wpList_store_row rfl _ _ _ rfl (w1.heap.size) (wvA f) rfl rfl 59 _ hA (wvInfoA _) (by simp only [wvA_size]) (wvA_one _) ?_))
    have hB := setRow_heap (w1.alloc (.cells (wvA fun _ => 0) 59)) w1.heap.size _ (wvA f) _ _ hA
    have hb2 : Below w1.heap.size w1 ((w1.alloc (.cells (wvA fun _ => 0) 59)).setRow w1.heap.size (wvA f)) := below_setRow ((Below.refl _ _).alloc (Nat.le_refl _) _) (Nat.le_refl _) _
    have hb02 := hb1.trans (hb2.mono hb1.size)
    clear hA
    generalize (w1.alloc (.cells (wvA fun _ => 0) 59)).setRow w1.heap.size (wvA f) = w2 at *
    have HC := Lib.hid (cloneRow_any f w1.heap.size (l.length + 1) 41 _ _ w2 (by omega) hB)
    clear hB
    go_wp2_with fail
    refine HC.out.mono ?_
    rintro e w3 ⟨a, cap, rfl, hown, hb3⟩
    go_wp2_with fail
    go_ret2
    exact ⟨a, cap, rfl, hown.mono hb02.size, hb02.trans (hb3.mono hb02.size)⟩
end Go.Proofs.Ytemedmkealegcaa
