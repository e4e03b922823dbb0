/- Joined boards: IsEven, by the model and by the program. -/
import Derived.Test.YtbnoallcdjpihaaDoorO6
import Derived.Shelf.Slices.CompactI
import Derived.Lib.SlicesCompact
import Derived.Lib.OwnBridge
import Derived.Outline
namespace Go.Proofs.YtbnoallcdjpihaaDoor
open Go.RowKit

theorem compact_pos {d : Array Int} : ∀ m, 1 ≤ m → 1 ≤ (Lib.compactUpTo d m).length
  | 0, h => by omega
  | 1, _ => by
    rw [Lib.compactUpTo_succ, if_pos (Lib.keeps_lt_one d 0 (by omega))]
    simp
  | m + 2, _ => by
    have := compact_pos (d := d) (m + 1) (by omega)
    rw [Lib.compactUpTo_succ, List.length_append]
    omega
/-- What Compact leaves is one element just if all are the same. -/
theorem compact_one {d : Array Int} : ∀ m, 1 ≤ m → ((Lib.compactUpTo d m).length = 1 ↔ ∀ j, j < m → d[j]! = d[0]!)
  | 0, h => by omega
  | 1, _ => by
    rw [Lib.compactUpTo_succ, if_pos (Lib.keeps_lt_one d 0 (by omega))]
    simp [Lib.compactUpTo]
  | m + 2, _ => by
    have ih := compact_one (d := d) (m + 1) (by omega)
    have hp := compact_pos (d := d) (m + 1) (by omega)
    rw [Lib.compactUpTo_succ, List.length_append]
    by_cases h : d[m + 1]! = d[m]!
    · rw [if_neg (by rw [Lib.keeps_neg (by omega) (by simpa using h)]; decide), List.length_nil, Nat.add_zero, ih]
      constructor
      · intro q j hj
        by_cases e : j = m + 1
        · rw [e, h]; exact q m (by omega)
        · exact q j (by omega)
      · exact fun q j hj => q j (by omega)
    · rw [if_pos (Lib.keeps_pos (by simpa using h)), List.length_singleton]
      constructor
      · intro q; omega
      · intro q
        exact absurd ((q (m + 1) (by omega)).trans (q m (by omega)).symm) h
theorem compact_head {d : Array Int} : ∀ m, 1 ≤ m → (Lib.compactUpTo d m)[0]? = some d[0]!
  | 0, h => by omega
  | 1, _ => by
    rw [Lib.compactUpTo_succ, if_pos (Lib.keeps_lt_one d 0 (by omega))]
    rfl
  | m + 2, _ => by
    have ih := compact_head (d := d) (m + 1) (by omega)
    have hp := compact_pos (d := d) (m + 1) (by omega)
    rw [Lib.compactUpTo_succ, List.getElem?_append_left (by omega), ih]
theorem arr_at (N : List Nat) (j : Nat) (h : j < N.length) : (N.map Int.ofNat).toArray[j]! = (N[j] : Int) := by
  rw [getElem!_pos _ j (by simpa using h)]
  simp
theorem compact_le (zs : List Int) : (Lib.compact zs).length ≤ zs.length := by
  unfold Lib.compact Lib.compactUpTo
  rw [List.length_map]
  exact Nat.le_trans (List.length_filter_le _ _) (by simp)

/-- slices.Compact of a row that the call owns. -/
theorem compact_own (v : Value) (zs : List Int) (B : Nat) (w : World) (hown : Owns w B 3 v (ints zs)) (hl : zs.length ≤ 1048576) :
    Calls Tryd.prog 24 #[v] w fun e w' => ∃ a cap, e = .returned (.slice a (Lib.compact zs).length cap) ∧ Owns w' B 3 (.slice a (Lib.compact zs).length cap) (ints (Lib.compact zs)) ∧ Below B w w' := by
  have h0 := hown
  rcases hown.2 with ⟨rfl, hn⟩ | ⟨g, cap, cur, rfl, hbg, hb, hnc, hcm, hcs, _⟩
  · have hz : zs = [] := by simpa [ints] using hn
    subst hz
    refine (Tryd.slices_Compact_int_empty none 0 w).mono ?_
    rintro e w' ⟨rfl, rfl⟩
    exact ⟨none, 0, rfl, Owns.nil _ _ _, Below.refl _ _⟩
  · have hown' : w.ownsRow B 3 1 (.slice (some ⟨g, 0, none⟩) zs.length cap) zs.length (zs.map (Value.int .i64)) := by
      have := h0
      unfold Owns at this
      rw [ints_length] at this
      exact this
    obtain ⟨g', cap', hv, _, hlt, _, _, _, hH⟩ := Lib.holds_of_ownsRow hown' (by simp)
    have e1 : g = g' ∧ cap = cap' := by
      simp only [Value.slice.injEq, Option.some.injEq, Addr.mk.injEq] at hv
      exact ⟨hv.1.1, hv.2.2⟩
    obtain ⟨rfl, rfl⟩ := e1
    rw [ints_length] at hnc ⊢
    have hcl := compact_le zs
    refine (Tryd.slices_Compact_int g 0 cap zs w hH (by omega) (by omega)).mono ?_
    rintro e w' ⟨rfl, q, rfl⟩
    have hr := Lib.ownsRow_putRow (q := q) (k := (Lib.compact zs).length) (ys := Lib.compact zs ++ List.replicate (zs.length - (Lib.compact zs).length) 0) hown' (by simp; omega) hcl
    rw [List.take_append_of_le_length (Nat.le_refl _), List.take_length] at hr
    refine ⟨_, cap, rfl, ?_, Lib.below_putRow (Below.refl B w) hbg⟩
    unfold Owns
    rw [ints_length]
    exact hr

/-- Are the numbers around all the same, and what are they? -/
def evB (l : List UInt8) : Bool := decide (0 < (jnOf l).length) && (jnOf l).all fun x => x == (jnOf l).headD 0
def evM (l : List UInt8) : Nat := if evB l = true then (jnOf l).headD 0 else 0

set_option maxRecDepth 100000 in
set_option maxHeartbeats 800000 in
theorem iIsEven_any (l : List UInt8) (w : World) (hM : HasMax w) (hl : l.length ≤ 1048576) :
    Calls Tryd.prog 8 #[.string ⟨l.toArray⟩] w fun e w' => e = .returned (.tuple #[.int .i64 (evM l), .bool (evB l)]) ∧ Below w.heap.size w w' := by
  have hTl : Hid ((jnOf l).length = (jC l).length) := by rw [Hid, jnOf, numsM_length]
  have hnb := fun w a cap h => numbersJ_any (J := joB l) (jW l) (jH l) a (jC l) cap w h (jC_le l) (jW_pos l) (jJ l)
  rw [show numsM (jC l) (geoOf (joB l) (jW l) (jH l)) = jnOf l from rfl] at hnb
  have HNB := Lib.hid hnb
  have h64 : (jnOf l).length ≤ 64 := by rw [hTl.out]; exact jC_le l
  have HE : Hid (evB l = (decide (0 < (jnOf l).length) && (jnOf l).all fun x => x == (jnOf l).headD 0)) := rfl
  have HV : Hid (evM l = if evB l = true then (jnOf l).headD 0 else 0) := rfl
  clear hnb
  have hRJ := Lib.hid (readJoined_any l w hM hl)
  generalize jnOf l = N at *
  generalize evM l = em at *
  generalize evB l = eb at *
  go_enter Tryd.func8, Tryd.ntmps8
  go_wp2_with fail
  refine hRJ.out.mono ?_
  rintro e w1 ⟨a, cap, rfl, hown, hb⟩
  have s1 := hb.size
  have hat : ∀ o, At (w1.alloc o) a (byts (jC l)) := fun o => (hown.at).later rfl ((Below.refl _ _).alloc (Nat.le_refl _) _)
  go_wp2_with fail
  refine (HNB.out _ a cap (hat _)).mono ?_
  rintro e w2 ⟨a', cap', rfl, hown2, hb2⟩
  have hb12 := (hb.alloc s1 (.cells #[.int .i64 (jW l), .int .i64 (jH l), .slice a (jC l).length cap, .bool (joB l)] 39)).trans (hb2.mono (by simp; omega))
  have hown2' : Owns w2 w.heap.size 3 (.slice a' (jC l).length cap') (ints (N.map Int.ofNat)) := hown2.mono (by simp; omega)
  clear hown2 hb2 hat hown
  go_wp2_with fail
  refine (compact_own _ (N.map Int.ofNat) w.heap.size _ hown2' (by simp; omega)).mono ?_
  rintro e w3 ⟨a3, c3, rfl, hown3, hb3⟩
  have hb13 := hb12.trans hb3
  have hcl := compact_le (N.map Int.ofNat)
  have hat3 := hown3.at
  rw [List.length_map] at hcl
  by_cases h1 : (Lib.compact (N.map Int.ofNat)).length = 1
  · have hpos : 0 < N.length := by omega
    have hall : ∀ j, j < N.length → (N.map Int.ofNat).toArray[j]! = (N.map Int.ofNat).toArray[0]! := by
      have := (compact_one (d := (N.map Int.ofNat).toArray) N.length hpos).1 (by
        have e := h1
        unfold Lib.compact at e
        rwa [List.length_map] at e)
      exact this
    have hhd : (Lib.compact (N.map Int.ofNat))[0]? = some (N.map Int.ofNat).toArray[0]! := by
      have := compact_head (d := (N.map Int.ofNat).toArray) N.length hpos
      unfold Lib.compact
      rwa [List.length_map]
    have hEB : Hid (eb = true) := by
      rw [Hid, HE.out, Bool.and_eq_true, decide_eq_true_eq, List.all_eq_true]
      refine ⟨hpos, fun x hx => ?_⟩
      obtain ⟨j, hj, rfl⟩ := List.getElem_of_mem hx
      have h2 := hall j hj
      rw [arr_at N j hj, arr_at N 0 hpos] at h2
      have h2 := Int.ofNat.inj h2
      cases N with
      | nil => simp at hpos
      | cons y r => simpa using h2
    have hEM : Hid ((em : Int) = (N.map Int.ofNat).toArray[0]!) := by
      rw [Hid, HV.out, if_pos hEB.out]
      rw [arr_at N 0 hpos]
      cases N with
      | nil => simp at hpos
      | cons y r => rfl
    have hc0 : ∃ b off, a3 = some ⟨b, off, none⟩ ∧ w3.cell? ⟨b, off, none⟩ = some (.int .i64 em) := by
      obtain ⟨b, off, he, hc⟩ := hat3 0 (by rw [ints_length]; omega)
      refine ⟨b, off, he, ?_⟩
      rw [Nat.add_zero] at hc
      rw [hc, hEM.out]
      have h3 := (List.getElem?_eq_some_iff.1 hhd).2
      simp only [ints, List.getElem_map]
      rw [h3]
    obtain ⟨b, off, rfl, hcell⟩ := hc0
    have hd : (((Lib.compact (N.map Int.ofNat)).length : Int) != 1) = false := by rw [h1]; rfl
    generalize (Lib.compact (N.map Int.ofNat)).length = cl at *
    subst h1
    clear hd
    go_wp2_with fail
    go_ret2
    exact ⟨by rw [hEB.out]; rfl, hb13⟩
  · have hd : (((Lib.compact (N.map Int.ofNat)).length : Int) != 1) = true := by simp; omega
    have hEB : Hid (eb = false) := by
      rw [Hid, HE.out, Bool.and_eq_false_iff]
      by_cases hpos : 0 < N.length
      · right
        rw [← Bool.not_eq_true]
        intro hq
        rw [List.all_eq_true] at hq
        apply h1
        unfold Lib.compact
        rw [List.length_map]
        refine (compact_one (d := (N.map Int.ofNat).toArray) N.length hpos).2 (fun j hj => ?_)
        have h2 := hq _ (List.getElem_mem hj)
        rw [arr_at N j hj, arr_at N 0 hpos]
        congr 1
        cases N with
        | nil => simp at hpos
        | cons y r => simpa using h2
      · left; simpa using hpos
    have hEM : Hid (em = 0) := by rw [Hid, HV.out, if_neg (by rw [hEB.out]; decide)]
    clear h1
    go_wp2_with fail
    go_ret2
    exact ⟨by rw [hEB.out, hEM.out]; rfl, hb13⟩

set_option maxRecDepth 100000 in
set_option maxHeartbeats 800000 in
theorem sIsEven_any (l : List UInt8) (w : World) (hl : l.length ≤ 1048576) :
    Calls Tryd.prog 7 #[.string ⟨l.toArray⟩] w fun e w' => e = .returned (.tuple #[.int .i64 (evM l), .bool (evB l)]) ∧ Below w.heap.size w w' := by
  have HG := Lib.hid (fun w => joGood_any l w hl)
  have HE : Hid (evB l = (decide (0 < (jnOf l).length) && (jnOf l).all fun x => x == (jnOf l).headD 0)) := rfl
  have HV : Hid (evM l = if evB l = true then (jnOf l).headD 0 else 0) := rfl
  cases hj : joB l with
  | false =>
    rw [hj] at HG
    have hN : jnOf l = [] := by rw [jnOf, (jC_no hj).1]; rfl
    have hEB : Hid (evB l = false) := by rw [Hid, HE.out, hN]; rfl
    have hEM : Hid (evM l = 0) := by rw [Hid, HV.out, if_neg (by rw [hEB.out]; decide)]
    clear hj hN
    go_enter Tryd.func7, Tryd.ntmps7
    go_wp2_with fail
    refine (HG.out _).mono ?_
    rintro e w1 ⟨rfl, hb⟩
    go_wp2_with fail
    go_ret2
    exact ⟨by rw [hEB.out, hEM.out]; rfl, hb⟩
  | true =>
    have HJ := Lib.hid (fun w => joOf_any l w hl hj)
    have hB := Brd.g (joB_good hj)
    have hN : jnOf l = numsM (gCells l) (.around (gW l) (gH l)) := by rw [jnOf, (jC_yes hj).1, jG_yes hj]
    have hlen : (gCells l).length = (jnOf l).length := by rw [hN, numsM_length]
    have hpos : 0 < (jnOf l).length := by
      rw [← hlen, hB.len]
      exact Nat.mul_pos hB.w1 hB.h1
    have h64 := hB.n64
    rw [hj] at HG
    rw [← hN, hlen] at HJ
    rw [hlen] at h64
    clear hj hB hN hlen
    generalize jnOf l = N at *
    generalize evM l = em at *
    generalize evB l = eb at *
    go_enter Tryd.func7, Tryd.ntmps7
    go_wp2_with fail
    refine (HG.out _).mono ?_
    rintro e w1 ⟨rfl, hb1⟩
    go_wp2_with fail
    refine (HJ.out _).mono ?_
    rintro e w2 ⟨a, cap, rfl, hown, hb2⟩
    have hb02 := hb1.trans (hb2.mono hb1.size)
    have hat := hown.at
    clear hown hb1 hb2
    obtain ⟨b0, off0, rfl, hc0⟩ := nats_at hat 0 hpos
    have hhd : Hid (N.headD 0 = N[0]) := by cases N with | nil => simp at hpos | cons y r => rfl
    rw [Nat.add_zero] at hc0
    go_wp2_with fail
    go_loop [14] (fun i => ∃ k : Nat, k ≤ N.length ∧ i = .int .i64 k ∧ Hid (∀ j, (h : j < N.length) → j < k → N[j] = N[0])) (fun i => N.length - (intOf i).toNat)
    case atStart => exact ⟨0, Nat.zero_le _, rfl, Lib.hid (fun j _ hj => absurd hj (by omega))⟩
    case round =>
      obtain ⟨k, hk, rfl, hR⟩ := hrel
      by_cases hlt : k < N.length
      · obtain ⟨b, off, he, hcell⟩ := nats_at hat k hlt
        simp only [Option.some.injEq, Addr.mk.injEq, and_true] at he
        obtain ⟨rfl, rfl⟩ := he
        by_cases hq : N[k] = N[0]
        · have hd : ((N[k] : Int) != (N[0] : Int)) = false := by simp [hq]
          have HQ := Lib.hid hq
          clear hq
          go_wp2_with fail
          go_round
          case rel => exact ⟨k + 1, by omega, by go_num, Lib.hid (fun j h hj => by
            by_cases e : j = k
            · subst e; exact HQ.out
            · exact hR.out j h (by omega))⟩
          case measure => simp [intOf]; omega
        · have hd : ((N[k] : Int) != (N[0] : Int)) = true := by simp; omega
          have hEB : Hid (eb = false) := by
            rw [Hid, HE.out, Bool.and_eq_false_iff]
            right
            rw [← Bool.not_eq_true]
            intro hqq
            rw [List.all_eq_true] at hqq
            have := hqq _ (List.getElem_mem hlt)
            rw [hhd.out] at this
            exact hq (by simpa using this)
          have hEM : Hid (em = 0) := by rw [Hid, HV.out, if_neg (by rw [hEB.out]; decide)]
          clear hq
          go_wp2_with fail
          go_ret2
          exact ⟨by rw [hEB.out, hEM.out]; rfl, hb02⟩
      · obtain rfl : k = N.length := by omega
        have hEB : Hid (eb = true) := by
          rw [Hid, HE.out, Bool.and_eq_true, decide_eq_true_eq, List.all_eq_true]
          refine ⟨hpos, fun x hx => ?_⟩
          obtain ⟨j, hj, rfl⟩ := List.getElem_of_mem hx
          rw [hhd.out, hR.out j hj hj]
          simp
        have hEM : Hid (N[0] = em) := by rw [Hid, HV.out, if_pos hEB.out, hhd.out]
        rw [hEM.out] at hc0
        go_wp2_with fail
        go_ret2
        exact ⟨by rw [hEB.out]; rfl, hb02⟩
end Go.Proofs.YtbnoallcdjpihaaDoor
