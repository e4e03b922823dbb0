/- Opening: the edge of an opening, by the program and by the model. -/
import Derived.Test.YtndmkbkmfonefacDoorYQ
import Derived.Outline
namespace Go.Proofs.YtndmkbkmfonefacDoor
open Go.RowKit

theorem mem_zGo (cells : List UInt8) (W : Nat) (s : UInt8) (x : Nat) : ∀ (m k : Nat), x ∈ zGo cells W s k m ↔ (k ≤ x ∧ x < k + m) ∧ cells.getD x 0 = s ∧ numM cells W x = 0
  | 0, k => by simp [zGo]; omega
  | m + 1, k => by
    have ih := mem_zGo cells W s x m (k + 1)
    unfold zGo
    by_cases h : cells.getD k 0 = s ∧ numM cells W k = 0
    · rw [if_pos h, List.mem_cons, ih]
      constructor
      · rintro (rfl | ⟨h1, h2⟩)
        · exact ⟨by omega, h⟩
        · exact ⟨by omega, h2⟩
      · rintro ⟨h1, h2⟩
        by_cases e : x = k
        · exact .inl e
        · exact .inr ⟨by omega, h2⟩
    · rw [if_neg h, ih]
      constructor
      · rintro ⟨h1, h2⟩
        exact ⟨by omega, h2⟩
      · rintro ⟨h1, h2⟩
        by_cases e : x = k
        · subst e; exact absurd h2 h
        · exact ⟨by omega, h2⟩
theorem countAt_zero (cells : List UInt8) : ∀ l : List Nat, countAt cells l = 0 → ∀ x ∈ l, cells.getD x 0 ≠ 42
  | [], _, x, hx => by cases hx
  | y :: l, h, x, hx => by
    unfold countAt at h
    by_cases hy : cells.getD y 0 = 42
    · rw [if_pos hy] at h; omega
    · rw [if_neg hy] at h
      rcases List.mem_cons.1 hx with rfl | hx
      · exact hy
      · exact countAt_zero cells l h x hx
theorem reach_free (cells : List UInt8) (W c : Nat) (hc : cells.getD c 0 ≠ 42) : ∀ x, Reach (nearM W cells.length) (zeroB cells W) c x → cells.getD x 0 ≠ 42 := by
  intro x hx
  induction hx with
  | start => exact hc
  | @step y z _ hz hn _ =>
    have h0 : countAt cells (nearM W cells.length y) = 0 := by simpa [zeroB, numM] using hz
    exact countAt_zero cells _ h0 _ hn
/-- Of what a click opens, a cell is a zero of the board if its number is 0. -/
theorem zero_in (cells : List UInt8) (W c x : Nat) (hs : ∀ c ∈ cells, c = 46 ∨ c = 42) (hc : c < cells.length) (hf : cells.getD c 0 ≠ 42) (hx : x ∈ opM cells W c) : decide (x ∈ zerosM cells W) = zeroB cells W x := by
  have hxl : x < cells.length := by
    rw [opM, sortM, List.mem_filter, List.mem_range] at hx
    exact hx.1
  rw [opM, mem_sortM (bfs_lt (nearM_lts W cells.length) hc), bfs0_mem (nearM_lts W cells.length) hc] at hx
  have h42 := reach_free cells W c hf x hx
  have hg : cells.getD x 0 = cells[x] := by simp [List.getD, hxl]
  rw [Bool.eq_iff_iff, decide_eq_true_eq, zerosM, mem_zGo, zeroB, beq_iff_eq]
  constructor
  · rintro ⟨_, _, h⟩; exact h
  · intro h
    refine ⟨⟨Nat.zero_le _, by omega⟩, ?_, h⟩
    rw [hg] at h42 ⊢
    exact (hs _ (List.getElem_mem hxl)).resolve_right h42

/-- Are there a board and a free cell with the number 0? -/
def edgeOK (l : List UInt8) (c : Int) : Bool := freeOK l c && zeroB (gCells l) (gW l) c.toNat
/-- What EdgeOfOpening hands back. -/
def edOf (l : List UInt8) (c : Int) : List Nat := if edgeOK l c = true then (opM (gCells l) (gW l) c.toNat).filter (fun x => !zeroB (gCells l) (gW l) x) else []
theorem edOf_len (l : List UInt8) (c : Int) : (edOf l c).length ≤ 1048576 := by
  unfold edOf
  split
  · exact Nat.le_trans (List.length_filter_le _ _) (Nat.le_trans (opM_le _ _ _) (Nat.le_trans (gCells_le l) (by decide)))
  · simp
theorem edgeOK_yes {l : List UInt8} {c : Int} (h : edgeOK l c = true) : freeOK l c = true ∧ zeroB (gCells l) (gW l) c.toNat = true := by
  simpa [edgeOK] using h
theorem edOf_no {l : List UInt8} {c : Int} (h : edgeOK l c = false) : edOf l c = [] := by rw [edOf, if_neg (by rw [h]; decide)]

set_option maxRecDepth 100000 in
theorem edge1_any (W H : Nat) (a : Option Addr) (cells : List UInt8) (cap b1 x : Nat) (w : World) (hG : w.heap[b1]? = some (.cells #[.int .i64 W, .int .i64 H, .slice a cells.length cap, .bool false] 42 (0, 0)))
    (hat : At w a (byts cells)) (hW : 1 ≤ W) (h64 : cells.length ≤ 64) (hx : x < cells.length) :
    Calls Tryd.prog 49 #[.int .i64 (x : Int), .pointer (some ⟨b1, 0, none⟩)] w fun e w' => e = .returned (.bool (zeroB cells W x)) ∧ Below w.heap.size w w' := by
  have hf0 := cell_of_block hG 0
  have hf1 := cell_of_block hG 1
  have hf2 := cell_of_block hG 2
  have hf3 := cell_of_block hG 3
  simp at hf0 hf1 hf2 hf3
  clear hG
  have hn := number_any W H a cells cap x w hat hW hx h64
  have HN := Lib.hid hn
  have HZ : Hid ((((numM cells W x : Nat) : Int) == 0) = zeroB cells W x) := by
    rw [Hid, zeroB, Bool.eq_iff_iff, beq_iff_eq, beq_iff_eq]; omega
  clear hn
  go_enter Tryd.func49, Tryd.ntmps49
  go_wp2_with fail
  refine HN.out.mono ?_
  rintro e w1 ⟨rfl, hb1⟩
  go_wp2_with fail
  go_ret
  exact ⟨by rw [← HZ.out]; rfl, hb1⟩
theorem enters_edge1 (args : Array Value) (w' : World) : (callFunc 49 args).run Tryd.prog w' = .ok (.enter 49 args) w' := by
  go_simp

set_option maxRecDepth 100000 in
set_option maxHeartbeats 1600000 in
theorem iEdgeOfOpening_any (l : List UInt8) (c : Int) (w : World) (hM : HasMax w) (hl : l.length ≤ 1048576) :
    Calls Tryd.prog 16 #[.string ⟨l.toArray⟩, .int .i64 c] w fun e w' => ∃ a cap, e = .returned (.tuple #[.slice a (edOf l c).length cap, .bool (edgeOK l c)]) ∧ Owns w' w.heap.size 3 (.slice a (edOf l c).length cap) (nats (edOf l c)) ∧ Below w.heap.size w w' := by
  by_cases hc : freeOK l c = true
  · have hrf := fun w h => readFree_yes l c w h hl hc
    have HRF := Lib.hid hrf
    have hgl := gCells_le l
    obtain ⟨_, k, hck, hk, _⟩ := freeOK_yes hc
    have hW1 := gW_pos l (by omega)
    have hck2 : c.toNat = k := by omega
    have HEO : Hid (edgeOK l c = zeroB (gCells l) (gW l) k) := by rw [Hid, edgeOK, hc, hck2]; simp
    have HED : Hid (zeroB (gCells l) (gW l) k = true → edOf l c = (opM (gCells l) (gW l) k).filter (fun x => !zeroB (gCells l) (gW l) x)) := by
      intro h; rw [edOf, if_pos (by rw [HEO.out]; exact h), hck2]
    have HEN : Hid (zeroB (gCells l) (gW l) k = false → edOf l c = []) := fun h => edOf_no (by rw [HEO.out]; exact h)
    subst hck
    clear hc hrf hck2
    generalize edOf l k = ed at *
    generalize edgeOK l k = eo at *
    go_enter Tryd.func16, Tryd.ntmps16
    go_wp2_with fail
    refine (HRF.out _ hM).mono ?_
    rintro e w1 ⟨a, cap, rfl, hown, hb⟩
    have s1 := hb.size
    clear HRF
    generalize gCells l = cells at *
    generalize gW l = W at *
    generalize gH l = H at *
    go_wp2_with fail
    have hba : Below w1.heap.size w1 (w1.alloc (.cells #[.int .i64 W, .int .i64 H, .slice a cells.length cap, .bool false] 42)) := (Below.refl _ _).alloc (Nat.le_refl _) _
    have hGa : (w1.alloc (.cells #[.int .i64 W, .int .i64 H, .slice a cells.length cap, .bool false] 42)).heap[w1.heap.size]? = some (.cells #[.int .i64 W, .int .i64 H, .slice a cells.length cap, .bool false] 42 (0, 0)) := heap_alloc_new w1 _
    have hsa : w1.heap.size < (w1.alloc (.cells #[.int .i64 W, .int .i64 H, .slice a cells.length cap, .bool false] 42)).heap.size := by simp
    have hata := hown.at.later rfl hba
    generalize w1.alloc (.cells #[.int .i64 W, .int .i64 H, .slice a cells.length cap, .bool false] 42) = wa at *
    have HGA := Lib.hid hGa
    clear hGa
    refine (number_any W H a cells cap k _ hata hW1 hk hgl).mono ?_
    rintro e w2 ⟨rfl, hb2⟩
    have s2 := hb2.size
    have hat2 := hata.later rfl hb2
    have hG2 := (hb2.block w1.heap.size hsa).trans HGA.out
    have hf0 := cell_of_block hG2 0
    have hf1 := cell_of_block hG2 1
    have hf2 := cell_of_block hG2 2
    have hf3 := cell_of_block hG2 3
    simp at hf0 hf1 hf2 hf3
    have hG2lt := block_lt hG2
    have HG2 := Lib.hid hG2
    have hbw := (hb.trans (hba.mono s1)).trans (hb2.mono (by omega))
    clear hG2 hb hba hb2 hata
    cases hz : zeroB cells W k with
    | false =>
      have hd : (((numM cells W k : Nat) : Int) != 0) = true := by
        have : numM cells W k ≠ 0 := by simpa [zeroB] using hz
        rw [bne_iff_ne]; omega
      have HE := Lib.hid (HEN.out hz)
      have HZ := Lib.hid hz
      clear hz
      go_wp2_with fail
      go_ret2
      exact ⟨none, 0, by rw [HE.out, HEO.out, HZ.out]; rfl, by rw [HE.out]; exact Owns.nil _ _ _, hbw⟩
    | true =>
      have hd : (((numM cells W k : Nat) : Int) != 0) = false := by
        have : numM cells W k = 0 := by simpa [zeroB] using hz
        simp [this]
      have HE := Lib.hid (HED.out hz)
      have HZ := Lib.hid hz
      clear hz
      go_wp2_with fail
      refine (openedBy_any W H a cells cap k _ hat2 hW1 hgl hk).mono ?_
      rintro e w3 ⟨a3, cap3, rfl, hown3, hb3⟩
      have s3 := hb3.size
      have hol := opM_le cells W k
      have hat3 := hat2.later rfl hb3
      have hG3 := (hb3.block w1.heap.size hG2lt).trans HG2.out
      have HMEM : Hid (∀ x ∈ opM cells W k, x < cells.length) := fun x hx => by
        rw [opM, sortM, List.mem_filter, List.mem_range] at hx; exact hx.1
      clear hf0 hf1 hf2 hf3
      have HG3 := Lib.hid hG3
      clear hG3
      go_wp2_with fail
      refine (deleteFunc_any _ (opM cells W k) (zeroB cells W) 49 #[] #[.pointer (some ⟨w1.heap.size, 0, none⟩)] w2.heap.size w3 hown3 (by omega) (by omega) enters_edge1 ?_).mono ?_
      · intro w' x hx hb'
        exact edge1_any W H a cells cap w1.heap.size x w' ((hb'.block _ hG2lt).trans HG3.out) (hat3.below hat2 (Nat.le_refl _) hb') hW1 hgl (HMEM.out x hx)
      · rintro e w4 ⟨v4, rfl, hown4, hb4⟩
        rw [← HE.out] at hown4
        obtain ⟨a4, cap4, hv⟩ := hown4.shape
        simp only [nats_length] at hv
        subst hv
        go_wp2_with fail
        go_ret2
        exact ⟨a4, cap4, by rw [HEO.out, HZ.out]; rfl, hown4.mono (by omega), (hbw.trans (hb3.mono (by omega))).trans (hb4.mono (by omega))⟩
  · have hc' : freeOK l c = false := by simpa using hc
    have hrf := fun w h => readFree_no l c w h hl hc'
    have HRF := Lib.hid hrf
    have HEO : Hid (edgeOK l c = false) := by rw [Hid, edgeOK, hc']; rfl
    have HE := Lib.hid (edOf_no HEO.out)
    clear hc hc' hrf
    go_enter Tryd.func16, Tryd.ntmps16
    go_wp2_with fail
    refine (HRF.out _ hM).mono ?_
    rintro e w1 ⟨rfl, hb⟩
    have s1 := hb.size
    unfold NoGrid
    go_wp2_with fail
    go_ret2
    exact ⟨none, 0, by rw [HE.out, HEO.out]; rfl, by rw [HE.out]; exact Owns.nil _ _ _, hb.alloc s1 _⟩

set_option maxRecDepth 100000 in
set_option maxHeartbeats 1600000 in
theorem sEdgeOfOpening_any (l : List UInt8) (c : Int) (w : World) (hl : l.length ≤ 1048576) :
    Calls Tryd.prog 15 #[.string ⟨l.toArray⟩, .int .i64 c] w fun e w' => ∃ a cap, e = .returned (.tuple #[.slice a (edOf l c).length cap, .bool (edgeOK l c)]) ∧ Owns w' w.heap.size 3 (.slice a (edOf l c).length cap) (nats (edOf l c)) ∧ Below w.heap.size w w' := by
  have hf := fun w => opFree_any l c w hl
  by_cases hc : freeOK l c = true
  · rw [hc] at hf
    obtain ⟨hg, k, hck, hk, h42⟩ := freeOK_yes hc
    have hB := Brd.of hg
    obtain ⟨g1, g2, g3⟩ := hB.grid
    have hck2 : c.toNat = k := by omega
    have hn64 := hB.n64
    have hzs := fun w => opZeros_any l _ _ _ w hl hB
    have hcl := fun w (h : k < (cellsM l).length) => opClick_any l _ _ _ k w hl hB h
    have HEO : Hid (edgeOK l c = zeroB (cellsM l) (headLen (splitB 47 l)) k) := by rw [Hid, edgeOK, hc, hck2, g3, g1]; simp
    have HED : Hid (zeroB (cellsM l) (headLen (splitB 47 l)) k = true → edOf l c = (opM (cellsM l) (headLen (splitB 47 l)) k).filter (fun x => !zeroB (cellsM l) (headLen (splitB 47 l)) x)) := by
      intro h; rw [edOf, if_pos (by rw [HEO.out]; exact h), hck2, g3, g1]
    have HEN : Hid (zeroB (cellsM l) (headLen (splitB 47 l)) k = false → edOf l c = []) := fun h => edOf_no (by rw [HEO.out]; exact h)
    rw [g3] at hk h42
    have HIN : Hid (∀ x ∈ opM (cellsM l) (headLen (splitB 47 l)) k, decide (x ∈ zerosM (cellsM l) (headLen (splitB 47 l))) = zeroB (cellsM l) (headLen (splitB 47 l)) x) := fun x hx => zero_in _ _ k x hB.sign hk h42 hx
    have HK := Lib.hid (zero_in _ (headLen (splitB 47 l)) k k hB.sign hk h42 (by
      rw [opM, mem_sortM (bfs_lt (nearM_lts _ _) hk), bfs0_mem (nearM_lts _ _) hk]; exact .start))
    subst hck
    have HF := Lib.hid hf
    have HZS := Lib.hid hzs
    have HCL := Lib.hid hcl
    have hol := opM_le (cellsM l) (headLen (splitB 47 l)) k
    have hzl := zerosM_le (cellsM l) (headLen (splitB 47 l))
    clear hc hf hzs hcl hB g1 g2 g3 hg h42 hck2
    generalize edOf l k = ed at *
    generalize edgeOK l k = eo at *
    generalize cellsM l = cells at *
    generalize headLen (splitB 47 l) = W at *
    rw [show zGo cells W 46 0 cells.length = zerosM cells W from rfl] at HZS
    generalize zerosM cells W = zeros at *
    go_enter Tryd.func15, Tryd.ntmps15
    go_wp2_with fail
    refine (HF.out _).mono ?_
    rintro e w1 ⟨rfl, hb1⟩
    have s1 := hb1.size
    go_wp2_with fail
    refine (HZS.out _).mono ?_
    rintro e w2 ⟨a2, cap2, rfl, hown2, hb2⟩
    have s2 := hb2.size
    have hHas := l1HasN_any zeros k a2 cap2 w2 hown2.at (by omega)
    rw [HK.out] at hHas
    have hbw := hb1.trans (hb2.mono s1)
    clear hb1 hb2 hown2
    cases hz : zeroB cells W k with
    | false =>
      rw [hz] at hHas
      have HH := Lib.hid hHas
      have HE := Lib.hid (HEN.out hz)
      have HZ := Lib.hid hz
      clear hz hHas
      go_wp2_with fail
      refine HH.out.mono ?_
      rintro e w3 ⟨rfl, rfl⟩
      go_wp2_with fail
      go_ret2
      exact ⟨none, 0, by rw [HE.out, HEO.out, HZ.out]; rfl, by rw [HE.out]; exact Owns.nil _ _ _, hbw⟩
    | true =>
      rw [hz] at hHas
      have HH := Lib.hid hHas
      have HE := Lib.hid (HED.out hz)
      have HZ := Lib.hid hz
      clear hz hHas
      go_wp2_with fail
      refine HH.out.mono ?_
      rintro e w3 ⟨rfl, rfl⟩
      go_wp2_with fail
      refine (HCL.out _ hk).mono ?_
      rintro e w3 ⟨a3, cap3, rfl, hown3, hb3⟩
      have s3 := hb3.size
      have hat3 := hown3.at
      have hbw3 := hbw.trans (hb3.mono (by omega))
      clear hown3 hb3
      generalize opM cells W k = op at *
      go_wp2_with fail
      go_loopw [6, 24] (fun v i wr => ∃ j : Nat, j ≤ op.length ∧ i = .int .i64 j ∧ Owns wr w3.heap.size 3 v (nats ((op.take j).filter fun x => !zeroB cells W x)) ∧ Below w3.heap.size w3 wr) (fun _ i _ => op.length - (intOf i).toNat)
      case atStart => exact ⟨0, Nat.zero_le _, rfl, Owns.nil _ _ _, Below.refl _ _⟩
      case round =>
        obtain ⟨j, hj, rfl, hown, hbr⟩ := hrel
        have sr := hbr.size
        by_cases hlt : j < op.length
        · obtain ⟨g, off, he, hcell⟩ := nats_at (hat3.later rfl hbr) j hlt
          subst he
          have hin := HIN.out _ (List.getElem_mem hlt)
          have HI2 := Lib.hid hin
          clear hin
          have hft : Hid ((op.take (j + 1)).filter (fun x => !zeroB cells W x) = (op.take j).filter (fun x => !zeroB cells W x) ++ (if zeroB cells W op[j] = true then [] else [op[j]])) := by
            rw [Hid, List.take_succ_eq_append_getElem hlt, List.filter_append]
            by_cases hq : zeroB cells W op[j] = true <;> simp [hq]
          have hfl : ((op.take j).filter fun x => !zeroB cells W x).length ≤ 64 := by
            refine Nat.le_trans (List.length_filter_le _ _) ?_
            rw [List.length_take]; omega
          go_wp2_with fail
          refine (HZS.out _).mono ?_
          rintro e w5 ⟨a5, cap5, rfl, hown5, hb5⟩
          have s5 := hb5.size
          have hHas := l1HasN_any zeros op[j] a5 cap5 w5 hown5.at (by omega)
          rw [HI2.out] at hHas
          have hown6 := hown.later hb5
          have hbr6 := hbr.trans (hb5.mono sr)
          clear hown5 hb5 hown hcell
          cases hq : zeroB cells W op[j] with
          | true =>
            rw [hq] at hHas
            have HH2 := Lib.hid hHas
            have HQ := Lib.hid hq
            clear hq hHas
            go_wp2_with fail
            refine HH2.out.mono ?_
            rintro e w6 ⟨rfl, rfl⟩
            go_wp2_with fail
            go_roundw
            case rel =>
              first
                | exact ⟨j + 1, by omega, by go_num, by rw [hft.out, if_pos HQ.out, List.append_nil]; exact hown6, hbr6⟩
                | ((repeat apply Exists.intro); exact ⟨⟨j + 1, by omega, by go_num, by rw [hft.out, if_pos HQ.out, List.append_nil]; exact hown6, hbr6⟩, rfl⟩)
            case measure => simp [intOf]; omega
          | false =>
            rw [hq] at hHas
            have HH2 := Lib.hid hHas
            have HQ := Lib.hid hq
            clear hq hHas
            go_wp2_with fail
            refine HH2.out.mono ?_
            rintro e w6 ⟨rfl, rfl⟩
            go_wp2_with (at_builtin; refine wpList_app1 rfl _ _ _ rfl _ _ _ _ elemInt _ _ _ _ rfl rfl rfl hown6 rfl (by simp at hfl ⊢; omega) (by omega) (by simp at hfl ⊢; omega) ?_; intro v1 w7 hown1 hb7 hs7)
            rw [nats_snoc] at hown1
            go_roundw
            case rel =>
              first
                | exact ⟨j + 1, by omega, by go_num, by rw [hft.out, if_neg (by rw [HQ.out]; decide)]; exact hown1, hbr6.trans hb7⟩
                | ((repeat apply Exists.intro); exact ⟨⟨j + 1, by omega, by go_num, by rw [hft.out, if_neg (by rw [HQ.out]; decide)]; exact hown1, hbr6.trans hb7⟩, rfl⟩)
            case measure => simp [intOf]; omega
        · obtain rfl : j = op.length := by omega
          rw [List.take_length, ← HE.out] at hown
          obtain ⟨a', cap', hv⟩ := hown.shape
          simp only [nats_length] at hv
          subst hv
          go_wp2_with fail
          go_ret2
          exact ⟨a', cap', by rw [HEO.out, HZ.out]; rfl, hown.mono (by have := hbw3.size; omega), hbw3.trans (hbr.mono (by have := hbw3.size; omega))⟩
  · have hc' : freeOK l c = false := by simpa using hc
    rw [hc'] at hf
    have HF := Lib.hid hf
    have HEO : Hid (edgeOK l c = false) := by rw [Hid, edgeOK, hc']; rfl
    have HE := Lib.hid (edOf_no HEO.out)
    clear hc hc' hf
    go_enter Tryd.func15, Tryd.ntmps15
    go_wp2_with fail
    refine (HF.out _).mono ?_
    rintro e w1 ⟨rfl, hb1⟩
    go_wp2_with fail
    go_ret2
    exact ⟨none, 0, by rw [HE.out, HEO.out]; rfl, by rw [HE.out]; exact Owns.nil _ _ _, hb1⟩
end Go.Proofs.YtndmkbkmfonefacDoor
