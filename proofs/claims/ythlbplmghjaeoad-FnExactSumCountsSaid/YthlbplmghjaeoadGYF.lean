/- YF, YG, YM, laid as one text. -/
import Derived.Test.YthlbplmghjaeoadGYB
import Derived.Outline
import Derived.StillTailTactics

/- Opening: all openings of a text, and how many there are, by the program and by the model. -/
namespace Go.Proofs.Ythlbplmghjaeoad
open Go.RowKit

theorem gW_pos (l : List UInt8) : 0 < (gCells l).length → 1 ≤ gW l := by
  intro h
  rw [gCells_len] at h
  rcases Nat.eq_zero_or_pos (gW l) with h0 | h0
  · rw [h0] at h; simp at h
  · exact h0
theorem gCells_none {l : List UInt8} (h : boGoodM l = false) : gCells l = [] := by rw [gCells, if_neg (by rw [h]; decide)]

/-- The first zeros and the openings of a text. -/
def fstOf (l : List UInt8) : List Nat := firstsM (gCells l) (gW l)
def opsOf (l : List UInt8) : List (List Nat) := openingsM (gCells l) (gW l)
theorem fstOf_le (l : List UInt8) : (fstOf l).length ≤ 64 := Nat.le_trans (firstsM_le _ _) (gCells_le l)
theorem opsOf_length (l : List UInt8) : (opsOf l).length = (fstOf l).length := by rw [opsOf, openingsM, List.length_map]; rfl
theorem opsOf_row (l : List UInt8) : ∀ r ∈ opsOf l, r.length ≤ 64 := by
  intro r hr
  simp only [opsOf, openingsM, List.mem_map] at hr
  obtain ⟨z, _, rfl⟩ := hr
  exact Nat.le_trans (opM_le _ _ _) (gCells_le l)
theorem fstOf_none {l : List UInt8} (h : boGoodM l = false) : fstOf l = [] := by rw [fstOf, gCells_none h]; rfl
theorem opsOf_none {l : List UInt8} (h : boGoodM l = false) : opsOf l = [] := by rw [opsOf, gCells_none h]; rfl




end Go.Proofs.Ythlbplmghjaeoad

/- Opening: the openings that a cell is in. -/
namespace Go.Proofs.Ythlbplmghjaeoad
open Go.RowKit

/-- A row of rows, read at one place. -/
theorem Fam.row {w : World} {B e n cp : Nat} {A : Option Addr} {us : List Value} {rss : List (List Nat)} {F : List Rw} (hF : Fam w B ((.slice A n cp, e, us) :: (rowsF us rss ++ F))) (hus : us.length = rss.length) (k : Nat) (hk : k < rss.length) :
    ∃ g off a c, A = some ⟨g, off, none⟩ ∧ w.cell? ⟨g, off + k, none⟩ = some (.slice a rss[k].length c) ∧ Owns w B 3 (.slice a rss[k].length c) (nats rss[k]) := by
  have hku : k < us.length := by omega
  obtain ⟨_, _, hv⟩ := hF.head.shape
  obtain ⟨g, off, hA, hc⟩ := (Owns.at hF.head) k hku
  have ho := hF.own _ (List.mem_cons_of_mem _ (List.mem_append.2 (.inl (rowsF_mem us rss k hku hk))))
  obtain ⟨a, c, hs⟩ := Owns.shape ho
  simp only [nats_length] at hs
  refine ⟨g, off, a, c, hA, by rw [hc, hs], ?_⟩
  rw [← hs]
  exact ho

theorem hasI_cons (x : Int) (r : List Int) (c : Int) : hasI (x :: r) c = (x == c || hasI r c) := rfl

/-- The indices of the rows that have a number. -/
def wiM (rss : List (List Nat)) (c : Int) : List Nat := filtM (fun i => hasI ((rss.getD i []).map Int.ofNat) c) rss.length
theorem wiM_le (rss : List (List Nat)) (c : Int) : (wiM rss c).length ≤ rss.length := filtM_le _ _

end Go.Proofs.Ythlbplmghjaeoad

/- Walks: the laws' own helpers on lists of lists of numbers. -/
namespace Go.Proofs.Ythlbplmghjaeoad
open Go.RowKit

theorem Owns.setOther {w : World} {B e : Nat} {v : Value} {xs : List Value} (h : Owns w B e v xs) (g j : Nat) (u : Value) (hg : v.ownBlock ≠ some g) : Owns (w.setCell ⟨g, j, none⟩ u) B e v xs := by
  refine World.ownsRow.kept (row := some g) h ⟨rfl, rfl, rfl, by simp [World.setCell], fun k _ hne => Below.heap_setCell _ _ _ _ (by intro e; apply hne; rw [e])⟩ ?_
  exact .inr hg
theorem Fam.store {w : World} {B e g n cap : Nat} {xs : List Value} {F : List Rw} (h : Fam w B ((.slice (some ⟨g, 0, none⟩) n cap, e, xs) :: F)) (j : Nat) (u : Value) :
    Fam (w.setCell ⟨g, j, none⟩ u) B ((.slice (some ⟨g, 0, none⟩) n cap, e, xs.set j u) :: F) := by
  have hp := List.pairwise_cons.1 h.apart
  refine ⟨?_, List.pairwise_cons.2 ⟨hp.1, hp.2⟩⟩
  intro y hy
  rcases List.mem_cons.1 hy with rfl | hy
  · exact h.head.store j u
  · exact (h.own y (List.mem_cons_of_mem _ hy)).setOther g j u (hp.1 y hy g rfl)

set_option maxRecDepth 100000 in
set_option maxHeartbeats 800000 in
theorem markIntS_at (B : Nat) (a : Option Addr) (xs : List Nat) (n c k : Nat) (F : List Rw) (w : World) (hn : n = xs.length) (hF : Fam w B ((.slice a n c, 3, nats xs) :: F)) (hl : xs.length ≤ 1099511627776) (hk : k ≤ 2199023255552) :
    Calls Try.prog 38 #[.slice a n c, .int .i64 (k : Int)] w fun e w' => e = .returned (.int .i64 ((k + n : Nat) : Int)) ∧ Fam w' B ((.slice a n c, 3, nats (List.range' k n)) :: F) ∧ Below B w w' := by
  subst hn
  go_enter Try.func38, Try.ntmps38
  go_wp2_with fail
  go_loopw [1, 5] (fun q i wr => ∃ j : Nat, j ≤ xs.length ∧ i = .int .i64 j ∧ q = .int .i64 ((k : Int) + j) ∧ Fam wr B ((.slice a xs.length c, 3, nats (List.range' k j ++ xs.drop j)) :: F) ∧ Below B w wr) (fun _ i _ => xs.length - (intOf i).toNat)
  case atStart => exact ⟨0, Nat.zero_le _, rfl, by simp, by simpa using hF, Below.refl _ _⟩
  case round =>
    clear hF
    obtain ⟨j, hj, rfl, rfl, hF, hb⟩ := hrel
    have hown := hF.head
    by_cases hlt : j < xs.length
    · obtain ⟨g, hag⟩ : ∃ g, a = some ⟨g, 0, none⟩ := by
        obtain ⟨h1, h2⟩ := hown
        rcases h2 with ⟨_, hn0⟩ | ⟨g, cap, cur, hv, _⟩
        · simp at hn0; omega
        · simp at hv; exact ⟨g, hv.1⟩
      subst hag
      have hgB := (hown.lt g rfl).1
      have hlen : j < (nats (List.range' k j ++ xs.drop j)).length := by simp; omega
      obtain ⟨g', o', he, hc⟩ := hown.at j hlen
      simp only [Option.some.injEq, Addr.mk.injEq, and_true] at he
      obtain ⟨rfl, rfl⟩ := he
      simp only [Nat.zero_add] at hc
      have hfr := World.ownsRow.frozenAt (n := (nats (List.range' k j ++ xs.drop j)).length) (cap := c) (by
        have e : (nats (List.range' k j ++ xs.drop j)).length = xs.length := by simp; omega
        have := hown; unfold Owns at this; rw [e] at this ⊢; exact this) j
      have hst := hF.store j (.int .i64 ((k : Int) + j))
      have e2 : (nats (List.range' k j ++ xs.drop j)).set j (.int .i64 ((k : Int) + j)) = nats (List.range' k (j + 1) ++ xs.drop (j + 1)) := by
        rw [List.range'_1_concat, List.drop_eq_getElem_cons hlt, nats, ints, List.map_append, List.map_append, List.map_cons, List.map_cons, List.set_append_right _ _ (by simp)]
        simp [nats, ints]
      rw [e2] at hst
      generalize hold : (nats (List.range' k j ++ xs.drop j))[j] = old at hc
      clear hold e2 hF hown
      go_wp2_with fail
      go_roundw
      case rel => exact ⟨j + 1, by omega, by go_num, by congr 1, hst, hb.trans ((Below.set j _).mono hgB)⟩
      case measure => simp [intOf]; omega
    · obtain rfl : j = xs.length := by omega
      go_wp2_with fail
      go_ret
      exact ⟨by congr 1, by simpa using hF, hb⟩

set_option maxRecDepth 100000 in
set_option maxHeartbeats 800000 in
theorem heldIntS_at (a : Option Addr) (n c k : Nat) (w : World) (ha : At w a (nats (List.range' k n))) (hl : n ≤ 1099511627776) (hk : k ≤ 2199023255552) :
    Calls Try.prog 39 #[.slice a n c, .int .i64 (k : Int)] w fun e w' => e = .returned (.int .i64 ((k + n : Nat) : Int)) ∧ w = w' := by
  go_enter Try.func39, Try.ntmps39
  go_wp2_with fail
  go_loop [1, 5] (fun q i => ∃ j : Nat, j ≤ n ∧ i = .int .i64 j ∧ q = .int .i64 ((k : Int) + j)) (fun _ i => n - (intOf i).toNat)
  case atStart => exact ⟨0, Nat.zero_le _, rfl, by simp⟩
  case round =>
    obtain ⟨j, hj, rfl, rfl⟩ := hrel
    by_cases hlt : j < n
    · obtain ⟨g, o, rfl, hc⟩ := nats_at ha j (by simpa using hlt)
      rw [List.getElem_range', Nat.one_mul, Int.natCast_add] at hc
      have hd : ((k : Int) + (j : Int) != (k : Int) + (j : Int)) = false := by simp
      go_wp2_with fail
      go_round
      case rel => exact ⟨j + 1, by omega, by go_num, by congr 1⟩
      case measure => simp [intOf]; omega
    · obtain rfl : j = n := by omega
      go_wp2_with fail
      go_ret
      exact ⟨by congr 1, rfl⟩

/-- The rows marked with the numbers k, k + 1, .. . -/
def markR : Nat → List (List Nat) → List (List Nat)
  | _, [] => []
  | k, r :: rs => List.range' k r.length :: markR (k + r.length) rs
/-- How many numbers the rows have. -/
def totR : List (List Nat) → Nat
  | [] => 0
  | r :: rs => r.length + totR rs
@[simp] theorem markR_length : ∀ (k : Nat) (rs : List (List Nat)), (markR k rs).length = rs.length
  | _, [] => rfl
  | k, r :: rs => by simp [markR, markR_length]
theorem totR_snoc (r : List Nat) : ∀ rs : List (List Nat), totR (rs ++ [r]) = totR rs + r.length
  | [] => by simp [totR]
  | x :: rs => by simp [totR, totR_snoc r rs]; omega
theorem markR_snoc (r : List Nat) : ∀ (k : Nat) (rs : List (List Nat)), markR k (rs ++ [r]) = markR k rs ++ [List.range' (k + totR rs) r.length]
  | k, [] => by simp [markR, totR]
  | k, x :: rs => by simp [markR, totR, markR_snoc r (k + x.length) rs, Nat.add_assoc]
theorem totR_le {m : Nat} : ∀ rs : List (List Nat), (∀ r ∈ rs, r.length ≤ m) → totR rs ≤ m * rs.length
  | [], _ => by simp [totR]
  | r :: rs, h => by
    have h1 := totR_le rs (fun x hx => h x (List.mem_cons_of_mem _ hx))
    have h2 := h r List.mem_cons_self
    rw [totR, List.length_cons, Nat.mul_succ]
    omega
theorem totR_take (rs : List (List Nat)) (k : Nat) (hk : k < rs.length) : totR (rs.take (k + 1)) = totR (rs.take k) + rs[k].length := by
  rw [List.take_succ_eq_append_getElem hk, totR_snoc]
theorem rowsF_append : ∀ (us vs : List Value) (rs ss : List (List Nat)), us.length = rs.length → rowsF (us ++ vs) (rs ++ ss) = rowsF us rs ++ rowsF vs ss
  | [], vs, [], ss, _ => rfl
  | u :: us, vs, r :: rs, ss, h => by
    simp only [List.cons_append, rowsF]
    rw [rowsF_append us vs rs ss (by simpa using h)]
  | [], _, _ :: _, _, h => by simp at h
  | _ :: _, _, [], _, h => by simp at h
/-- One row taken out of its place, to the head. -/
theorem rowsF_split (us : List Value) (rs : List (List Nat)) (k : Nat) (hu : us.length = rs.length) (hk : k < rs.length) :
    rowsF us rs = rowsF (us.take k) (rs.take k) ++ (us[k], 3, nats rs[k]) :: rowsF (us.drop (k + 1)) (rs.drop (k + 1)) := by
  have e1 : us = us.take k ++ us[k] :: us.drop (k + 1) := by rw [← List.drop_eq_getElem_cons, List.take_append_drop]
  have e2 : rs = rs.take k ++ rs[k] :: rs.drop (k + 1) := by rw [← List.drop_eq_getElem_cons, List.take_append_drop]
  have h := rowsF_append (us.take k) (us[k] :: us.drop (k + 1)) (rs.take k) (rs[k] :: rs.drop (k + 1)) (by simp; omega)
  rw [← e1, ← e2] at h
  rw [h]
  rfl
theorem perm_row (x a : Rw) (l1 l2 T : List Rw) : (x :: (l1 ++ a :: l2 ++ T)).Perm (a :: x :: (l1 ++ l2 ++ T)) := by
  refine ((List.perm_middle (a := a) (l₁ := l1) (l₂ := l2 ++ T)).cons x |> fun h => ?_)
  have e1 : l1 ++ a :: l2 ++ T = l1 ++ a :: (l2 ++ T) := by simp
  rw [e1, List.append_assoc]
  exact h.trans (List.Perm.swap a x _)

set_option maxRecDepth 100000 in
set_option maxHeartbeats 1600000 in
theorem eqIntSS_same (rss : List (List Nat)) (a1 a2 : Option Addr) (c1 c2 : Nat) (us1 us2 : List Value) (F1 F2 : List Rw) (B1 B2 : Nat) (w : World) (hu1 : us1.length = rss.length) (hu2 : us2.length = rss.length)
    (hF1 : Fam w B1 ((.slice a1 rss.length c1, 39, us1) :: (rowsF us1 rss ++ F1))) (hF2 : Fam w B2 ((.slice a2 rss.length c2, 39, us2) :: (rowsF us2 rss ++ F2))) (hl : rss.length ≤ 1048576) (hr : ∀ r ∈ rss, r.length ≤ 1048576) :
    Calls Try.prog 15 #[.slice a1 rss.length c1, .slice a2 rss.length c2] w fun e w' => e = .returned (.bool true) ∧ Below w.heap.size w w' := by
  have d0 : ((rss.length : Int) != (rss.length : Int)) = false := by simp
  have HU1 := Lib.hid hu1
  have HU2 := Lib.hid hu2
  have HR := Lib.hid hr
  clear hu1 hu2 hr
  go_enter Try.func15, Try.ntmps15
  go_wp2_with fail
  go_loopw [5] (fun i wr => ∃ k : Nat, k ≤ rss.length ∧ i = .int .i64 k ∧ Below w.heap.size w wr) (fun i _ => rss.length - (intOf i).toNat)
  case atStart => exact ⟨0, Nat.zero_le _, rfl, Below.refl _ _⟩
  case round =>
    obtain ⟨k, hk, rfl, hb⟩ := hrel
    by_cases hlt : k < rss.length
    · obtain ⟨g1, o1, b1, d1, rfl, hc1, ho1⟩ := (hF1.later hb).row HU1.out k hlt
      obtain ⟨g2, o2, b2, d2, rfl, hc2, ho2⟩ := (hF2.later hb).row HU2.out k hlt
      have i1 : (k : Int) < (rss.length : Int) := by omega
      have hrk := HR.out _ (List.getElem_mem hlt)
      go_wp2_with fail
      go_still_tail 8, (by kernel_rfl)
      change wpList _ _ _ _ _ wr.drew
      have at1 : At wr.drew b1 (ints (rss[k].map Int.ofNat)) := ho1.at
      have at2 : At wr.drew b2 (ints (rss[k].map Int.ofNat)) := ho2.at
      have hbd : Below w.heap.size w wr.drew := ⟨hb.os, hb.tape, hb.output, hb.size, hb.block⟩
      clear ho1 ho2 hc1 hc2
      generalize wr.drew = wd at *
      go_wp2_with fail
      refine (eqIntS_same _ _ (rss[k].map Int.ofNat) _ _ _ _ (by simp) at1 at2 (by simp; omega)).mono ?_
      rintro e w3 ⟨rfl, hb3⟩
      go_wp2_with fail
      go_roundw
      case rel => exact ⟨k + 1, by omega, by go_num, hbd.trans (hb3.mono hbd.size)⟩
      case measure => simp [intOf]; omega
    · go_wp2_with fail
      go_ret
      exact ⟨rfl, hb⟩

set_option maxRecDepth 100000 in
set_option maxHeartbeats 1600000 in
theorem markIntSS_own (rss : List (List Nat)) (a : Option Addr) (c : Nat) (us : List Value) (F : List Rw) (B : Nat) (w : World) (hus : us.length = rss.length) (hF : Fam w B ((.slice a rss.length c, 39, us) :: (rowsF us rss ++ F))) (hl : rss.length ≤ 1048576) (hr : ∀ r ∈ rss, r.length ≤ 1048576) :
    Calls Try.prog 16 #[.slice a rss.length c, .int .i64 1] w fun e w' => e = .returned (.int .i64 ((1 + totR rss : Nat) : Int)) ∧ Fam w' B ((.slice a rss.length c, 39, us) :: (rowsF us (markR 1 rss) ++ F)) ∧ Below B w w' := by
  have HUS := Lib.hid hus
  have HR := Lib.hid hr
  have htl : ∀ k, totR (rss.take k) ≤ 1048576 * 1048576 := fun k => by
    have := totR_le (m := 1048576) (rss.take k) (fun r h => hr r (List.mem_of_mem_take h))
    have h2 : (rss.take k).length ≤ 1048576 := by rw [List.length_take]; omega
    exact Nat.le_trans this (Nat.mul_le_mul_left _ h2)
  have HTL := Lib.hid htl
  clear hus hr htl
  go_enter Try.func16, Try.ntmps16
  go_wp2_with fail
  go_loopw [1, 5] (fun q i wr => ∃ k : Nat, k ≤ rss.length ∧ i = .int .i64 k ∧ q = .int .i64 ((1 + totR (rss.take k) : Nat) : Int) ∧ Fam wr B ((.slice a rss.length c, 39, us) :: (rowsF us (markR 1 (rss.take k) ++ rss.drop k) ++ F)) ∧ Below B w wr) (fun _ i _ => rss.length - (intOf i).toNat)
  case atStart => exact ⟨0, Nat.zero_le _, rfl, by simp [totR], by simpa [markR] using hF, Below.refl _ _⟩
  case round =>
    clear hF
    obtain ⟨k, hk, rfl, rfl, hF, hb⟩ := hrel
    by_cases hlt : k < rss.length
    · have hml : (markR 1 (rss.take k)).length = k := by rw [markR_length, List.length_take]; omega
      have hxl : (markR 1 (rss.take k) ++ rss.drop k).length = rss.length := by rw [List.length_append, hml, List.length_drop]; omega
      have hkx : k < (markR 1 (rss.take k) ++ rss.drop k).length := by omega
      have hgk : (markR 1 (rss.take k) ++ rss.drop k)[k] = rss[k] := by rw [List.getElem_append_right (by omega)]; simp [hml]
      have hku : k < us.length := by rw [HUS.out]; exact hlt
      have hsp := rowsF_split us (markR 1 (rss.take k) ++ rss.drop k) k (by rw [HUS.out, hxl]) hkx
      rw [hgk] at hsp
      have htk : (markR 1 (rss.take k) ++ rss.drop k).take k = markR 1 (rss.take k) := by rw [List.take_append_of_le_length (by omega), List.take_of_length_le (by omega)]
      have hdk : (markR 1 (rss.take k) ++ rss.drop k).drop (k + 1) = rss.drop (k + 1) := by
        rw [List.drop_append, List.drop_of_length_le (by omega), List.nil_append, hml, List.drop_drop]
        congr 1; omega
      rw [htk, hdk] at hsp
      obtain ⟨g, off, ar, cr, rfl, hc, ho⟩ := Fam.row (rss := markR 1 (rss.take k) ++ rss.drop k) (F := F) (us := us) hF (by rw [HUS.out, hxl]) k hkx
      rw [hgk] at hc ho
      obtain ⟨_, _, huk⟩ := Owns.shape (hF.own (us[k], 3, nats rss[k]) (by rw [hsp]; simp))
      have hF2 : Fam wr B ((us[k], 3, nats rss[k]) :: (.slice (some ⟨g, off, none⟩) rss.length c, 39, us) :: (rowsF (us.take k) (markR 1 (rss.take k)) ++ rowsF (us.drop (k + 1)) (rss.drop (k + 1)) ++ F)) := by
        rw [hsp] at hF
        exact hF.perm (perm_row _ _ _ _ _)
      have hcu : us[k] = .slice ar rss[k].length cr := by
        obtain ⟨_, off', he', hcell⟩ := (Owns.at hF.head) k hku
        simp only [Option.some.injEq, Addr.mk.injEq, and_true] at he'
        obtain ⟨rfl, rfl⟩ := he'
        rw [hc] at hcell
        exact (Option.some.inj hcell).symm
      rw [hcu] at hF2
      have hrk := HR.out _ (List.getElem_mem hlt)
      have htk' := HTL.out k
      have htot := Lib.hid (totR_take rss k hlt)
      have hback : Hid (∀ w', Fam w' B ((.slice ar rss[k].length cr, 3, nats (List.range' (1 + totR (rss.take k)) rss[k].length)) :: (.slice (some ⟨g, off, none⟩) rss.length c, 39, us) :: (rowsF (us.take k) (markR 1 (rss.take k)) ++ rowsF (us.drop (k + 1)) (rss.drop (k + 1)) ++ F)) → Fam w' B ((.slice (some ⟨g, off, none⟩) rss.length c, 39, us) :: (rowsF us (markR 1 (rss.take (k + 1)) ++ rss.drop (k + 1)) ++ F))) := by
        intro w' hw
        have hm2 : markR 1 (rss.take (k + 1)) = markR 1 (rss.take k) ++ [List.range' (1 + totR (rss.take k)) rss[k].length] := by
          rw [List.take_succ_eq_append_getElem hlt, markR_snoc]
        have hsp2 : rowsF us (markR 1 (rss.take (k + 1)) ++ rss.drop (k + 1)) = rowsF (us.take k) (markR 1 (rss.take k)) ++ (.slice ar rss[k].length cr, 3, nats (List.range' (1 + totR (rss.take k)) rss[k].length)) :: rowsF (us.drop (k + 1)) (rss.drop (k + 1)) := by
          have e1 : us = us.take k ++ us[k] :: us.drop (k + 1) := by rw [← List.drop_eq_getElem_cons, List.take_append_drop]
          have h := rowsF_append (us.take k) (us[k] :: us.drop (k + 1)) (markR 1 (rss.take k)) (List.range' (1 + totR (rss.take k)) rss[k].length :: rss.drop (k + 1)) (by rw [hml, List.length_take]; omega)
          rw [← e1] at h
          rw [hm2, List.append_assoc]
          rw [show [List.range' (1 + totR (rss.take k)) rss[k].length] ++ rss.drop (k + 1) = List.range' (1 + totR (rss.take k)) rss[k].length :: rss.drop (k + 1) from rfl, h, ← hcu]
          rfl
        rw [hsp2]
        exact hw.perm (perm_row _ _ _ _ _).symm
      clear hsp htk hdk hgk hkx hxl hml hku ho huk hF hcu
      go_wp2_with fail
      refine (markIntS_at B ar rss[k] _ cr (1 + totR (rss.take k)) _ _ rfl hF2 (by omega) (by omega)).mono ?_
      rintro e w3 ⟨rfl, hF3, hb3⟩
      have hF4 := hback.out w3 hF3
      clear hF2 hF3 hc hback
      go_wp2_with fail
      go_roundw
      case rel =>
        first
          | exact ⟨k + 1, by omega, by go_num, by rw [htot.out, ← Nat.add_assoc]; go_num, hF4, hb.trans hb3⟩
          | ((repeat apply Exists.intro); exact ⟨⟨k + 1, by omega, by go_num, by rw [htot.out, ← Nat.add_assoc]; go_num, hF4, hb.trans hb3⟩, rfl⟩)
      case measure => simp [intOf]; omega
    · obtain rfl : k = rss.length := by omega
      rw [List.take_length, List.drop_length, List.append_nil] at hF
      go_wp2_with fail
      go_ret
      exact ⟨by rw [List.take_length]; rfl, hF, hb⟩

theorem markR_get : ∀ (k : Nat) (rs : List (List Nat)) (j : Nat) (h : j < rs.length), (markR k rs)[j]'(by simpa using h) = List.range' (k + totR (rs.take j)) rs[j].length
  | k, r :: rs, 0, _ => by simp [markR, totR]
  | k, r :: rs, j + 1, h => by
    have h' : j < rs.length := by simpa using h
    have := markR_get (k + r.length) rs j h'
    simp only [markR, List.getElem_cons_succ, List.take_succ_cons, totR]
    rw [this, Nat.add_assoc]

set_option maxRecDepth 100000 in
set_option maxHeartbeats 1600000 in
theorem heldIntSS_seq (rss : List (List Nat)) (a : Option Addr) (c : Nat) (us : List Value) (F : List Rw) (B : Nat) (w : World) (hus : us.length = rss.length) (hF : Fam w B ((.slice a rss.length c, 39, us) :: (rowsF us (markR 1 rss) ++ F))) (hl : rss.length ≤ 1048576) (hr : ∀ r ∈ rss, r.length ≤ 1048576) :
    Calls Try.prog 17 #[.slice a rss.length c, .int .i64 1] w fun e w' => e = .returned (.int .i64 ((1 + totR rss : Nat) : Int)) ∧ w = w' := by
  have HUS := Lib.hid hus
  have HR := Lib.hid hr
  have htl : ∀ k, totR (rss.take k) ≤ 1048576 * 1048576 := fun k => by
    have := totR_le (m := 1048576) (rss.take k) (fun r h => hr r (List.mem_of_mem_take h))
    have h2 : (rss.take k).length ≤ 1048576 := by rw [List.length_take]; omega
    exact Nat.le_trans this (Nat.mul_le_mul_left _ h2)
  have HTL := Lib.hid htl
  clear hus hr htl
  have hrow : Hid (∀ k (hk : k < rss.length), ∃ g off b d, a = some ⟨g, off, none⟩ ∧ w.cell? ⟨g, off + k, none⟩ = some (.slice b rss[k].length d) ∧ At w b (nats (List.range' (1 + totR (rss.take k)) rss[k].length))) := by
    intro k hk
    obtain ⟨g, off, b, d, h1, h2, h3⟩ := Fam.row (us := us) (rss := markR 1 rss) (n := rss.length) hF (by rw [HUS.out, markR_length]) k (by simpa using hk)
    rw [markR_get 1 rss k hk] at h2 h3
    rw [List.length_range'] at h2 h3
    exact ⟨g, off, b, d, h1, h2, h3.at⟩
  clear hF
  go_enter Try.func17, Try.ntmps17
  go_wp2_with fail
  go_loop [1, 5] (fun q i => ∃ k : Nat, k ≤ rss.length ∧ i = .int .i64 k ∧ q = .int .i64 ((1 + totR (rss.take k) : Nat) : Int)) (fun _ i => rss.length - (intOf i).toNat)
  case atStart => exact ⟨0, Nat.zero_le _, rfl, by simp [totR]⟩
  case round =>
    obtain ⟨k, hk, rfl, rfl⟩ := hrel
    by_cases hlt : k < rss.length
    · obtain ⟨g, off, b, d, rfl, hc, hat⟩ := hrow.out k hlt
      have hrk := HR.out _ (List.getElem_mem hlt)
      have htk' := HTL.out k
      have htot := Lib.hid (totR_take rss k hlt)
      go_wp2_with fail
      refine (heldIntS_at b rss[k].length d (1 + totR (rss.take k)) _ hat (by omega) (by omega)).mono ?_
      rintro e w3 ⟨rfl, rfl⟩
      go_wp2_with fail
      go_round
      case rel =>
        first
          | exact ⟨k + 1, by omega, by go_num, by rw [htot.out, ← Nat.add_assoc]; go_num⟩
          | ((repeat apply Exists.intro); exact ⟨⟨k + 1, by omega, by go_num, by rw [htot.out, ← Nat.add_assoc]; go_num⟩, rfl⟩)
      case measure => simp [intOf]; omega
    · obtain rfl : k = rss.length := by omega
      go_wp2_with fail
      go_ret
      exact ⟨by first | rfl | (rw [List.take_length]; rfl), rfl⟩
end Go.Proofs.Ythlbplmghjaeoad
