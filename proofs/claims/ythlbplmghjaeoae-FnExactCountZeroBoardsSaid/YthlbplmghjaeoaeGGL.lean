/- GL, GM, laid as one text. -/
import Derived.Test.YthlbplmghjaeoaeGGJ
import Derived.Outline
import Derived.Test.YthlbplmghjaeoaeK1

/- Boards counted by a trait and conditions. -/
namespace Go.Proofs.Ythlbplmghjaeoae
open Go.RowKit

/-- The part with a value, counted. -/
theorem part_count (key : LB → Nat) (q : LB → Bool) (S : List LB) (v : Int) (hs : ∀ i j (hj : j < S.length) (hij : i < j), key (S[i]'(by omega)) ≤ key S[j]) :
    ((S.drop (blw key S v)).take (blw key S (v + 1) - blw key S v)).countP q = S.countP fun x => decide ((key x : Int) = v) && q x := by
  have hmono := blw_mono key S v
  have hle := blw_le key S (v + 1)
  -- where an element stands
  have hat : ∀ (u : Int) t (ht : t < S.length), ((key S[t] : Int) < u ↔ t < blw key S u) := by
    intro u t ht
    have e : S.countP (fun x => decide ((key x : Int) < u)) = (S.take t).countP (fun x => decide ((key x : Int) < u)) + (S.drop t).countP (fun x => decide ((key x : Int) < u)) := by
      rw [← List.countP_append, List.take_append_drop]
    have hd : S.drop t = S[t] :: S.drop (t + 1) := List.drop_eq_getElem_cons ht
    constructor
    · intro h
      have h1 : (S.take t).countP (fun x => decide ((key x : Int) < u)) = (S.take t).length := by
        refine List.countP_eq_length.2 fun a ha => ?_
        obtain ⟨i, hi, rfl⟩ := List.mem_iff_getElem.1 ha
        rw [List.length_take] at hi
        rw [List.getElem_take]
        have := hs i t ht (by omega)
        exact decide_eq_true (by omega)
      rw [h1, hd, List.countP_cons, if_pos (decide_eq_true h), List.length_take] at e
      unfold blw
      omega
    · intro h
      refine Classical.byContradiction fun hn => ?_
      have h2 : (S.drop t).countP (fun x => decide ((key x : Int) < u)) = 0 := by
        refine List.countP_eq_zero.2 fun a ha => ?_
        obtain ⟨i, hi, rfl⟩ := List.mem_iff_getElem.1 ha
        rw [List.length_drop] at hi
        rw [List.getElem_drop]
        rcases Nat.eq_zero_or_pos i with q | q
        · subst q; simpa using hn
        · have := hs t (t + i) (by omega) (by omega)
          simp; omega
      have h3 := List.countP_le_length (p := fun x => decide ((key x : Int) < u)) (l := S.take t)
      rw [List.length_take] at h3
      unfold blw at h
      omega
  have e : S = S.take (blw key S v) ++ ((S.drop (blw key S v)).take (blw key S (v + 1) - blw key S v) ++ S.drop (blw key S (v + 1))) := by
    have e1 : S.drop (blw key S (v + 1)) = (S.drop (blw key S v)).drop (blw key S (v + 1) - blw key S v) := by
      rw [List.drop_drop]; congr 1; omega
    rw [e1, List.take_append_drop, List.take_append_drop]
  generalize hF : blw key S v = fr at *
  generalize hT : blw key S (v + 1) = tw at *
  have h1 : (S.take fr).countP (fun x => decide ((key x : Int) = v) && q x) = 0 := by
    refine List.countP_eq_zero.2 fun a ha => ?_
    obtain ⟨i, hi, rfl⟩ := List.mem_iff_getElem.1 ha
    rw [List.length_take] at hi
    rw [List.getElem_take]
    have := (hat v i (by omega)).2 (by omega)
    simp; omega
  have h3 : (S.drop tw).countP (fun x => decide ((key x : Int) = v) && q x) = 0 := by
    refine List.countP_eq_zero.2 fun a ha => ?_
    obtain ⟨i, hi, rfl⟩ := List.mem_iff_getElem.1 ha
    rw [List.length_drop] at hi
    rw [List.getElem_drop]
    have h := hat (v + 1) (tw + i) (by omega)
    have : ¬ ((key S[tw + i] : Int) < v + 1) := fun x => by have := h.1 x; omega
    simp; omega
  have h2 : ((S.drop fr).take (tw - fr)).countP (fun x => decide ((key x : Int) = v) && q x) = ((S.drop fr).take (tw - fr)).countP q := by
    refine List.countP_congr fun a ha => ?_
    obtain ⟨i, hi, rfl⟩ := List.mem_iff_getElem.1 ha
    rw [List.length_take, List.length_drop] at hi
    rw [List.getElem_take, List.getElem_drop]
    have a1 := (hat (v + 1) (fr + i) (by omega)).2 (by omega)
    have a2 : ¬ ((key S[fr + i] : Int) < v) := fun x => by have := (hat v (fr + i) (by omega)).1 x; omega
    rw [decide_eq_true (show (key S[fr + i] : Int) = v by omega), Bool.true_and]
  conv => rhs; rw [e]
  rw [List.countP_append, List.countP_append, h1, h3, h2]
  omega
set_option maxRecDepth 100000 in
set_option maxHeartbeats 400000 in
theorem cbCl_any (F : Nat) (key : LB → Nat) (S : List LB) (v : Int) (g cap pb po : Nat) (cs : List Cnd) (a : Option Addr) (ca : Nat) (w : World) (hL : S.length ≤ 4096) (hcap : S.length ≤ cap) (hcm : cap ≤ 9223372036854775807) (hs : ∀ i j (hj : j < S.length) (hij : i < j), key (S[i]'(by omega)) ≤ key S[j])
    (hr : ∀ j (hj : j < S.length), w.rangeAt g (j * 24) (encB S[j])) (hk : ∀ z, key z ≤ 99999) (hv : -1 ≤ v ∧ v ≤ 99999)
    (eg : ∀ args w, (callFunc F args).run Try.prog w = .ok (.enter F args) w)
    (hF : ∀ z w, Calls Try.prog F #[.agg (encB z).toArray] w fun e w' => e = .returned (.int .i64 (key z : Nat)) ∧ ∃ o, w' = w.alloc o)
    (hb : w.cell? ⟨pb, 0, none⟩ = some (.slice (some ⟨g, 0, none⟩) S.length cap)) (ho : w.cell? ⟨po, 0, none⟩ = some (.func (.func F) #[] #[]))
    (hl : cs.length ≤ 1000) (hc : ∀ c ∈ cs, c.ok w) (hat : At w a (cs.map Cnd.v)) :
    Calls Try.prog 77 #[.int .i64 v, .slice a cs.length ca, .pointer (some ⟨pb, 0, none⟩), .pointer (some ⟨po, 0, none⟩)] w fun e w' => e = .returned (.int .i64 ((S.countP fun x => decide ((key x : Int) = v) && cs.all fun c => c.p x : Nat) : Int)) ∧ Below w.heap.size w w' := by
  have hpw := partWith_any F key S v g cap w hL hcap hcm hs hr hk hv eg hF
  have HPC := Lib.hid (part_count key (fun x => cs.all fun c => c.p x) S v hs)
  have HPW := Lib.hid hpw
  have HR := Lib.hid hr
  have HC := Lib.hid hc
  have HAT := Lib.hid hat
  clear hpw hs hr hk hv eg hF hc hat
  go_enter Try.func77, Try.ntmps77
  go_wp2_with fail
  refine HPW.out.mono ?_
  rintro e w2 ⟨o, rfl, ho2, hb2⟩
  have hml := blw_mono key S v
  have hle := blw_le key S (v + 1)
  obtain ⟨P, hP⟩ : ∃ P, P = (S.drop (blw key S v)).take (blw key S (v + 1) - blw key S v) := ⟨_, rfl⟩
  have hPl : P.length = blw key S (v + 1) - blw key S v := by rw [hP, List.length_take, List.length_drop]; omega
  have hrp : ∀ j (hj : j < P.length), w2.rangeAt g (o + j * 24) (encB P[j]) := fun j hj => by
    have e := ho2 (by omega)
    have h1 := range_later (HR.out (blw key S v + j) (by omega)) hb2
    have e2 : P[j] = S[blw key S v + j]'(by omega) := by simp only [hP, List.getElem_take, List.getElem_drop]
    rw [e2, e, ← Nat.add_mul]
    exact h1
  have HRP := Lib.hid hrp
  rw [← hP] at HPC
  rw [← hPl]
  have hPm : P.length ≤ 4096 := by omega
  clear hrp ho2 hP hPl hml hle HPW HR hb ho
  go_wp2_with fail
  go_loopw [7, 15] (fun n i wr => ∃ j : Nat, j ≤ P.length ∧ i = .int .i64 j ∧ n = .int .i64 ((P.take j).countP (fun x => cs.all fun c => c.p x) : Nat) ∧ Below w.heap.size w wr ∧ Below w2.heap.size w2 wr) (fun _ i _ => P.length - (intOf i).toNat)
  case atStart => exact ⟨0, Nat.zero_le _, rfl, rfl, hb2, Below.refl _ _⟩
  case round =>
    clear hb2
    obtain ⟨j, hj, rfl, rfl, hbw, hbr⟩ := hrel
    by_cases hjl : j < P.length
    · have hrj := range_later (HRP.out j hjl) hbr
      have HST : Hid ((P.take (j + 1)).countP (fun x => cs.all fun c => c.p x) = (P.take j).countP (fun x => cs.all fun c => c.p x) + if (cs.all fun c => c.p P[j]) = true then 1 else 0) := by
        rw [Hid, List.take_succ_eq_append_getElem hjl, List.countP_append]
        simp [List.countP_cons]
      have hcn : (P.take j).countP (fun x => cs.all fun c => c.p x) ≤ 4096 := Nat.le_trans List.countP_le_length (by rw [List.length_take]; omega)
      generalize (P.take j).countP (fun x => cs.all fun c => c.p x) = n at *
      generalize hxx : P[j] = x at *
      clear hxx
      go_upto_region 4 with fail
      refine wp_region_lit ?_
      go_step
      go_step
      go_step
      refine wpList_load_mid rfl 45 _ rfl g (o + j * 24) rfl (encB x) _ hrj Try.underlying45 rfl (inf67.trans (by rw [encB_len])) ?_
      have hxl := encB_len x
      go_step
      go_step
      go_step
      have hA5 : (wr.alloc (.cells #[.int .u8 0, .int .u8 0, .int .u8 0, .int .u8 0, .int .u8 0, .int .u8 0, .int .u8 0, .int .u8 0, .int .u8 0, .int .u8 0, .int .u8 0, .int .u8 0, .int .u8 0, .int .u8 0, .int .u8 0, .int .u8 0, .int .u8 0, .int .u8 0, .int .u8 0, .int .u8 0, .int .u8 0, .int .u8 0, .int .u8 0, .int .u8 0] 45)).heap[wr.heap.size]? = some (.cells #[.int .u8 0, .int .u8 0, .int .u8 0, .int .u8 0, .int .u8 0, .int .u8 0, .int .u8 0, .int .u8 0, .int .u8 0, .int .u8 0, .int .u8 0, .int .u8 0, .int .u8 0, .int .u8 0, .int .u8 0, .int .u8 0, .int .u8 0, .int .u8 0, .int .u8 0, .int .u8 0, .int .u8 0, .int .u8 0, .int .u8 0, .int .u8 0] 45 (0, 0)) := heap_alloc_new wr _
      have hb5 : Below wr.heap.size wr ((wr.alloc (.cells #[.int .u8 0, .int .u8 0, .int .u8 0, .int .u8 0, .int .u8 0, .int .u8 0, .int .u8 0, .int .u8 0, .int .u8 0, .int .u8 0, .int .u8 0, .int .u8 0, .int .u8 0, .int .u8 0, .int .u8 0, .int .u8 0, .int .u8 0, .int .u8 0, .int .u8 0, .int .u8 0, .int .u8 0, .int .u8 0, .int .u8 0, .int .u8 0] 45)).setCells wr.heap.size 0 (encB x)) := below_setCells (encB x) 0 ((Below.refl _ _).alloc (Nat.le_refl _) _) (Nat.le_refl _)
      have hR5 := World.rangeAt_setCells_same (wr.alloc (.cells #[.int .u8 0, .int .u8 0, .int .u8 0, .int .u8 0, .int .u8 0, .int .u8 0, .int .u8 0, .int .u8 0, .int .u8 0, .int .u8 0, .int .u8 0, .int .u8 0, .int .u8 0, .int .u8 0, .int .u8 0, .int .u8 0, .int .u8 0, .int .u8 0, .int .u8 0, .int .u8 0, .int .u8 0, .int .u8 0, .int .u8 0, .int .u8 0] 45)) wr.heap.size 0 (encB x) (by rw [encB_len]; exact there24 hA5 rfl)
      refine wpList_store_mid rfl 45 _ _ rfl wr.heap.size 0 (encB x).toArray rfl rfl (by rw [encB_size]; exact there24 hA5 rfl) (inf67.trans (by rw [encB_size])) (all_oneCell_toArray (encB_one x)) ?_
      refine wpList_nil ?_
      clear hA5 hrj
      generalize (wr.alloc (.cells #[.int .u8 0, .int .u8 0, .int .u8 0, .int .u8 0, .int .u8 0, .int .u8 0, .int .u8 0, .int .u8 0, .int .u8 0, .int .u8 0, .int .u8 0, .int .u8 0, .int .u8 0, .int .u8 0, .int .u8 0, .int .u8 0, .int .u8 0, .int .u8 0, .int .u8 0, .int .u8 0, .int .u8 0, .int .u8 0, .int .u8 0, .int .u8 0] 45)).setCells wr.heap.size 0 (encB x) = w5 at *
      have hbw5 := hbw.trans (hb5.mono hbw.size)
      have hbr5 := hbr.trans (hb5.mono hbr.size)
      have hha := holdsAll_any cs x a ca w w5 hl HC.out hbw5 (HAT.out.later rfl hbw5)
      have HHA := Lib.hid hha
      generalize wr.heap.size = BX at *
      clear hbw hbr hb5 hha
      cases hq : (cs.all fun c => c.p x) with
      | true =>
        rw [hq] at HHA HST
        go_wp2_with (first
          | (refine wpList_load_mid rfl 45 _ rfl BX 0 rfl (encB x) _ hR5 Try.underlying45 rfl (inf67.trans (by rw [encB_len])) ?_))
        refine HHA.out.mono ?_
        rintro e w6 ⟨rfl, hb6⟩
        clear hR5
        go_wp2_with fail
        go_roundw
        case rel => exact ⟨j + 1, by omega, by go_num, by rw [HST.out]; simp, hbw5.trans (hb6.mono hbw5.size), hbr5.trans (hb6.mono hbr5.size)⟩
        case measure => simp [intOf]; omega
      | false =>
        rw [hq] at HHA HST
        go_wp2_with (first
          | (refine wpList_load_mid rfl 45 _ rfl BX 0 rfl (encB x) _ hR5 Try.underlying45 rfl (inf67.trans (by rw [encB_len])) ?_))
        refine HHA.out.mono ?_
        rintro e w6 ⟨rfl, hb6⟩
        clear hR5
        go_wp2_with fail
        go_roundw
        case rel => exact ⟨j + 1, by omega, by go_num, by rw [HST.out]; simp, hbw5.trans (hb6.mono hbw5.size), hbr5.trans (hb6.mono hbr5.size)⟩
        case measure => simp [intOf]; omega
    · obtain rfl : j = P.length := by omega
      rw [List.take_length, HPC.out]
      go_wp2_with fail
      go_ret
      exact ⟨rfl, hbw⟩
end Go.Proofs.Ythlbplmghjaeoae

/- Boards counted: the counting function made, and called with mines. -/
namespace Go.Proofs.Ythlbplmghjaeoae
open Go.RowKit

theorem sorted_keys {key : LB → Nat} {d : Array (LB × Nat)} {n : Nat} (hd : d.size = n) (hs : Sort.SortedIn (ltX (fun p : LB × Nat => key p.1) (fun p => p.2)) 0 n d) (i j : Nat) (hj : j < (d.toList.map fun p => p.1).length) (hij : i < j) : key ((d.toList.map fun p => p.1)[i]'(by omega)) ≤ key (d.toList.map fun p => p.1)[j] := by
  have hj' : j < d.size := by simpa using hj
  have h := hs i j (Nat.zero_le _) hij (by omega)
  rw [getElem!_pos d j hj', getElem!_pos d i (by omega), ltX_not] at h
  simp only [List.getElem_map, Array.getElem_toList]
  omega
theorem sort_perm {d : Array (LB × Nat)} {L : List LB} (hd : d.size = L.length) (hp : Sort.PermIn 0 L.length L.zipIdx.toArray d) : (d.toList.map fun p => p.1).Perm L := by
  have h3 := hp.2.2
  have e1 : (d.extract 0 L.length).toList = d.toList := by rw [← hd]; simp
  have e2 : (L.zipIdx.toArray.extract 0 L.length).toList = L.zipIdx := by
    have : L.length = L.zipIdx.toArray.size := by simp
    rw [this]; simp [List.take_of_length_le]
  rw [e1, e2] at h3
  have h4 := h3.map (fun p : LB × Nat => p.1)
  have e3 : L.zipIdx.map (fun p => p.1) = L := by simp
  rwa [e3] at h4
set_option maxRecDepth 100000 in
set_option maxHeartbeats 400000 in
theorem counterBy_of (W H : Int) (L : List LB) (hL0 : 0 < L.length) (hL : L.length ≤ 4096) (hlb : ∀ w, Calls Try.prog 66 #[.int .i64 W, .int .i64 H] w fun e w' => ∃ v, e = .returned v ∧ OwnsB w' w.heap.size v L ∧ Below w.heap.size w w')
    (F : Nat) (key : LB → Nat) (hk : ∀ z, key z ≤ 99999) (eg : ∀ args w, (callFunc F args).run Try.prog w = .ok (.enter F args) w)
    (hF : ∀ z w, Calls Try.prog F #[.agg (encB z).toArray] w fun e w' => e = .returned (.int .i64 (key z : Nat)) ∧ ∃ o, w' = w.alloc o) (w : World) :
    Calls Try.prog 64 #[.int .i64 W, .int .i64 H, .func (.func F) #[] #[]] w fun e w' => ∃ pb po, e = .returned (.func (.func 77) #[] #[.pointer (some ⟨pb, 0, none⟩), .pointer (some ⟨po, 0, none⟩)]) ∧ Below w.heap.size w w' ∧
      ∀ (v : Int) (cs : List Cnd) (a : Option Addr) (ca : Nat) (W2 : World), Below w'.heap.size w' W2 → -1 ≤ v ∧ v ≤ 99999 → cs.length ≤ 1000 → (∀ c ∈ cs, c.ok W2) → At W2 a (cs.map Cnd.v) →
        Calls Try.prog 77 #[.int .i64 v, .slice a cs.length ca, .pointer (some ⟨pb, 0, none⟩), .pointer (some ⟨po, 0, none⟩)] W2 fun e w' => e = .returned (.int .i64 ((L.countP fun x => decide ((key x : Int) = v) && cs.all fun c => c.p x : Nat) : Int)) ∧ Below W2.heap.size W2 w' := by
  have hsb := fun w => sortBoards_of W H L hL0 hL hlb F key (fun z => by have := hk z; omega) eg hF w
  have HSB := Lib.hid hsb
  have HK := Lib.hid hk
  have HF := Lib.hid hF
  clear hsb hlb hk hF
  go_enter Try.func64, Try.ntmps64
  have hP : (w.alloc (.cells #[.func (.func F) #[] #[]] 83)).cell? ⟨w.heap.size, 0, none⟩ = some (.func (.func F) #[] #[]) := by simp
  have hb1 : Below w.heap.size w (w.alloc (.cells #[.func (.func F) #[] #[]] 83)) := (Below.refl _ _).alloc (Nat.le_refl _) _
  have hs1 : w.heap.size < (w.alloc (.cells #[.func (.func F) #[] #[]] 83)).heap.size := by simp
  go_wp2_with fail
  generalize w.alloc (.cells #[.func (.func F) #[] #[]] 83) = w1 at *
  refine (HSB.out _).mono ?_
  rintro e w2 ⟨v, rfl, d, hdz, hO, hp, hs, hb2⟩
  obtain ⟨S, hsk, hpm, hSl, hO'⟩ : ∃ S : List LB, (∀ i j (hj : j < S.length) (hij : i < j), key (S[i]'(by omega)) ≤ key S[j]) ∧ S.Perm L ∧ S.length = L.length ∧ OwnsB w2 w1.heap.size v S := ⟨_, fun i j hj hij => sorted_keys (key := key) (n := L.length) hdz hs i j hj hij, sort_perm hdz hp, by simp [hdz], hO⟩
  have hcm : ∀ a n c, v = .slice a n c → c ≤ 9223372036854775807 := fun a n c hv => by
    obtain ⟨_, ⟨h, _⟩ | ⟨g', cap', cur', h, _, _, _, hm, _⟩⟩ := hO'
    · rw [hv] at h; simp at h; omega
    · rw [hv] at h; simp at h; unfold maxLen at hm; omega
  obtain ⟨g, cap, cur, rfl, hg1, hg2, hgb, hgc, hgs, hgr⟩ := hO'.open (by omega)
  have hcm := hcm _ _ _ rfl
  have hP2 := (hb2.cell (p := ⟨w.heap.size, 0, none⟩) hs1).trans hP
  have hb02 := hb1.trans (hb2.mono hb1.size)
  have HSK := Lib.hid hsk
  have HPM := Lib.hid hpm
  have HGR := Lib.hid hgr
  have HP2 := Lib.hid hP2
  clear hsk hpm hgr hP2 hP hO hO' hp hs hb2 hgb hb1 hdz
  have HSL := Lib.hid hSl
  have hSL4 : S.length ≤ 4096 := by omega
  clear hSl
  go_wp2_with fail
  go_ret
  have hb3 : Below w2.heap.size w2 (w2.alloc (.cells #[.slice (some ⟨g, 0, none⟩) S.length cap] 70)) := (Below.refl _ _).alloc (Nat.le_refl _) _
  refine ⟨w2.heap.size, w.heap.size, rfl, hb02.trans (hb3.mono hb02.size), fun v cs a ca W2 hW hv hl hc hat => ?_⟩
  have hc1 : W2.cell? ⟨w2.heap.size, 0, none⟩ = some (.slice (some ⟨g, 0, none⟩) S.length cap) := by
    rw [hW.cell (p := ⟨w2.heap.size, 0, none⟩) (by simp), cell_of_block (heap_alloc_new w2 _)]; rfl
  have hc2 : W2.cell? ⟨w.heap.size, 0, none⟩ = some (.func (.func F) #[] #[]) := by
    have hl2 : w.heap.size < w2.heap.size := by have := World.block_lt_of_cell? _ _ HP2.out; simpa using this
    rw [hW.cell (p := ⟨w.heap.size, 0, none⟩) (by simp; omega), hb3.cell (p := ⟨w.heap.size, 0, none⟩) hl2]
    exact HP2.out
  have h := cbCl_any F key S v g cap w2.heap.size w.heap.size cs a ca W2 hSL4 hgc hcm HSK.out (fun j hj => range_later (range_later (HGR.out j hj) hb3) hW) HK.out hv eg HF.out hc1 hc2 hl hc hat
  rw [HPM.out.countP_eq] at h
  exact h
end Go.Proofs.Ythlbplmghjaeoae
