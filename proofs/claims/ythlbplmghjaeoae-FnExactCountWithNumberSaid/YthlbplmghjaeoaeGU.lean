/- CountWithNumber by the program. -/
import Derived.Test.YthlbplmghjaeoaeGGS
import Derived.Test.YthlbplmghjaeoaeGJC
import Derived.Outline
namespace Go.Proofs.Ythlbplmghjaeoae
open Go.RowKit

theorem nb_self (W c : Nat) : nbW W c c = false := by
  unfold nbW areNb
  simp
theorem no_more (W n c : Nat) (m : Nat) (d : Nat) (hdm : m < d) : ((allM n m).filter fun u => decide (u.getD c 0 = 46) && decide (numM u W c = d)).length = 0 := by
  rw [allM_mines n m (by omega), List.filter_filter, ← List.countP_eq_length_filter]
  refine List.countP_eq_zero.2 fun u hu => ?_
  have hl := allM_len hu
  have s0 := clc_mines W n c u hl
  have ss := clK_sum W c u
  have hn : numM u W c = countAt u (nearM W n c) := by unfold numM; rw [hl]
  rw [hn, ← s0]
  simp only [Bool.and_eq_true, decide_eq_true_eq]
  rintro ⟨⟨_, g1⟩, g2⟩
  omega
theorem cn_eq (W H : Nat) (hW : W ≤ 8) (hH : H ≤ 8) (h12 : W * H ≤ 12) (m : Int) (c d : Nat) (hc : c < W * H) (hd : d ≤ 8) (f1 f2 : Nat) (b1 b2 : Array Value) :
    ((cwN W H m [⟨f1, b1, fun x => ((x.at c).toNat : Int) == 46⟩, ⟨f2, b2, fun x => ((x.at (12 + c)).toNat : Int) == (d : Int)⟩] : Nat) : Int) = cnM W H m c d ∧ cnB W H m c d = cbB W H m := by
  have hWH : (W : Int) * (H : Int) = ((W * H : Nat) : Int) := (Int.natCast_mul W H).symm
  have hB : cnB W H m c d = cbB W H m := by
    have e1 : inB (c : Int) 0 ((W : Int) * H - 1) = true := inB_iff.2 (by rw [hWH]; omega)
    have e2 : inB (d : Int) 0 8 = true := inB_iff.2 (by omega)
    rw [cnB, cbB, e1, e2, Bool.and_true, Bool.and_true]
  refine ⟨?_, hB⟩
  unfold cwN cnM
  rw [hB]
  by_cases hb : cbB W H m = true
  · rw [if_pos hb, if_pos hb]
    have hi : inB m 0 ((W : Int) * H) = true := by unfold cbB at hb; rw [Bool.and_eq_true] at hb; exact hb.2
    obtain ⟨k, rfl⟩ : ∃ k : Nat, m = k := ⟨m.toNat, by have := (inB_iff.1 hi).1; omega⟩
    simp only [Int.toNat_natCast]
    rw [mns_count W H h12 (k : Int) (by omega) (fun x => ([⟨f1, b1, fun x => ((x.at c).toNat : Int) == 46⟩, ⟨f2, b2, fun x => ((x.at (12 + c)).toNat : Int) == (d : Int)⟩] : List Cnd).all fun c => c.p x) (fun u => decide (u.getD c 0 = 46) && decide (numM u W c = d)) fun u hu => ?_]
    · by_cases hdm : d ≤ k
      · rw [cn_count W (W * H) c k d hc (nb_self W c) hdm, chI, chI, if_pos (by omega), if_pos (by omega)]
        simp only [Int.toNat_natCast]
        rw [show ((k : Int) - (d : Int)).toNat = k - d by omega, Int.natCast_mul]
      · rw [no_more W (W * H) c k d (by omega), chI, chI, if_neg (show ¬ (0 : Int) ≤ (k : Int) - (d : Int) by omega)]
        simp
    · simp only [List.all_cons, List.all_nil, Bool.and_true]
      have hl := allM_len hu
      rw [pre_at W (W * H) u c (by omega), pre_numM W H hW hH h12 u hl c hc]
      congr 1
      · rw [Bool.eq_iff_iff, beq_iff_eq, decide_eq_true_eq]
        constructor
        · intro h
          have h3 : (u.getD c 0).toNat = 46 := by omega
          exact UInt8.toNat_inj.1 (by rw [h3]; rfl)
        · intro h
          rw [h]; rfl
      · rw [Bool.eq_iff_iff, beq_iff_eq, decide_eq_true_eq]
        omega
  · rw [if_neg hb, if_neg hb]; rfl
set_option maxRecDepth 100000 in
set_option maxHeartbeats 400000 in
theorem cnFree_any (x : LB) (c pc : Nat) (w : World) (hc : c < 12) (hp : w.cell? ⟨pc, 0, none⟩ = some (.int .i64 (c : Int))) :
    Calls Try.prog 37 #[.agg (encB x).toArray, .pointer (some ⟨pc, 0, none⟩)] w fun e w' => e = .returned (.bool (((x.at c).toNat : Int) == 46)) ∧ Below w.heap.size w w' := by
  have hpl := World.block_lt_of_cell? _ _ hp
  simp only at hpl
  go_enter Try.func37, Try.ntmps37
  go_upto_region 1 with fail
  have hX := heap_alloc_new w (.cells (encB x).toArray 45)
  have hb1 : Below w.heap.size w (w.alloc (.cells (encB x).toArray 45)) := (Below.refl _ _).alloc (Nat.le_refl _) _
  have hP := (hb1.cell (p := ⟨pc, 0, none⟩) hpl).trans hp
  have hcx : (w.alloc (.cells (encB x).toArray 45)).cell? ⟨w.heap.size, c, none⟩ = some (.int .u8 ((x.at c).toNat : Int)) := boxB_cell x w _ c (by omega)
  generalize w.alloc (.cells (encB x).toArray 45) = w2 at *
  clear hp hX
  go_wp2_with fail
  go_ret
  exact ⟨rfl, hb1⟩
set_option maxRecDepth 100000 in
set_option maxHeartbeats 400000 in
theorem cnNum_any (x : LB) (c pc pd : Nat) (d : Int) (w : World) (hc : c < 12) (hp : w.cell? ⟨pc, 0, none⟩ = some (.int .i64 (c : Int))) (hq : w.cell? ⟨pd, 0, none⟩ = some (.int .i64 d)) :
    Calls Try.prog 38 #[.agg (encB x).toArray, .pointer (some ⟨pc, 0, none⟩), .pointer (some ⟨pd, 0, none⟩)] w fun e w' => e = .returned (.bool (((x.at (12 + c)).toNat : Int) == d)) ∧ Below w.heap.size w w' := by
  have hpl := World.block_lt_of_cell? _ _ hp
  have hql := World.block_lt_of_cell? _ _ hq
  simp only at hpl hql
  go_enter Try.func38, Try.ntmps38
  go_upto_region 1 with fail
  have hb1 : Below w.heap.size w (w.alloc (.cells (encB x).toArray 45)) := (Below.refl _ _).alloc (Nat.le_refl _) _
  have hP := (hb1.cell (p := ⟨pc, 0, none⟩) hpl).trans hp
  have hQ := (hb1.cell (p := ⟨pd, 0, none⟩) hql).trans hq
  have hcx : (w.alloc (.cells (encB x).toArray 45)).cell? ⟨w.heap.size, 12 + c, none⟩ = some (.int .u8 ((x.at (12 + c)).toNat : Int)) := boxB_cell x w _ (12 + c) (by omega)
  have hby := byte_le (x.at (12 + c))
  generalize w.alloc (.cells (encB x).toArray 45) = w2 at *
  clear hp hq
  go_wp2_with fail
  go_quiet (fail)
  go_wp2_with fail
  go_ret
  exact ⟨rfl, below_drewN hb1 _⟩
set_option maxRecDepth 100000 in
set_option maxHeartbeats 400000 in
theorem iCountWithNumber_any (w h m c d : Int) (ws : World) :
    Calls Try.prog 15 #[.int .i64 w, .int .i64 h, .int .i64 m, .int .i64 c, .int .i64 d] ws fun e w' => e = .returned (.tuple #[.int .i64 (cnM w h m c d), .bool (cnB w h m c d)]) ∧ Below ws.heap.size ws w' := by
  have h1 := fun wr => isSmall_any w h wr
  have hb2 : Below ws.heap.size ws ((ws.alloc (.cells #[.int .i64 c] 3)).alloc (.cells #[.int .i64 d] 3)) := ((Below.refl _ _).alloc (Nat.le_refl _) _).alloc (by simp) _
  rcases sz_case w h 12 with hs | ⟨hs, W, H, rfl, rfl, hW1, hW2, hH1, hH2, hn⟩
  · rw [hs] at h1
    have HB : Hid (cnB w h m c d = false) := by rw [Hid, cnB, hs]; rfl
    have HM : Hid (cnM w h m c d = 0) := by rw [Hid, cnM, HB.out]; rfl
    have H1 := Lib.hid h1
    clear hs h1
    go_enter Try.func15, Try.ntmps15
    go_wp2_with fail
    refine (H1.out _).mono ?_
    rintro e w1 ⟨rfl, rfl⟩
    go_wp2_with fail
    go_ret2
    exact ⟨by rw [HM.out, HB.out]; rfl, hb2⟩
  · rw [hs] at h1
    have H1 := Lib.hid h1
    clear h1
    have hWH : (W : Int) * (H : Int) = ((W * H : Nat) : Int) := (Int.natCast_mul W H).symm
    have hno : (c < 0 ∨ ((W * H : Nat) : Int) ≤ c ∨ d < 0 ∨ 8 < d) → cnB W H m c d = false := fun q => by
      rw [cnB, Bool.eq_false_iff, ne_eq, Bool.and_eq_true, Bool.and_eq_true, inB_iff, inB_iff, hWH]
      omega
    by_cases c1 : c < 0
    · have HB : Hid (cnB W H m c d = false) := hno (by omega)
      have HM : Hid (cnM W H m c d = 0) := by rw [Hid, cnM, HB.out]; rfl
      clear hs hno hWH
      go_enter Try.func15, Try.ntmps15
      go_wp2_with fail
      refine (H1.out _).mono ?_
      rintro e w1 ⟨rfl, rfl⟩
      go_wp2_with fail
      go_ret2
      exact ⟨by rw [HM.out, HB.out]; rfl, hb2⟩
    · by_cases c2 : ((W * H : Nat) : Int) ≤ c
      · have HB : Hid (cnB W H m c d = false) := hno (by omega)
        have HM : Hid (cnM W H m c d = 0) := by rw [Hid, cnM, HB.out]; rfl
        obtain ⟨n, hnn⟩ : ∃ n : Nat, n = W * H := ⟨_, rfl⟩
        rw [← hnn] at hWH c2 hn
        clear hs hno hnn
        go_enter Try.func15, Try.ntmps15
        go_wp2_with fail
        refine (H1.out _).mono ?_
        rintro e w1 ⟨rfl, rfl⟩
        go_wp2_with fail
        go_ret2
        exact ⟨by rw [HM.out, HB.out]; rfl, hb2⟩
      · by_cases c3 : d < 0
        · have HB : Hid (cnB W H m c d = false) := hno (by omega)
          have HM : Hid (cnM W H m c d = 0) := by rw [Hid, cnM, HB.out]; rfl
          obtain ⟨n, hnn⟩ : ∃ n : Nat, n = W * H := ⟨_, rfl⟩
          rw [← hnn] at hWH c2 hn
          clear hs hno hnn
          go_enter Try.func15, Try.ntmps15
          go_wp2_with fail
          refine (H1.out _).mono ?_
          rintro e w1 ⟨rfl, rfl⟩
          go_wp2_with fail
          go_ret2
          exact ⟨by rw [HM.out, HB.out]; rfl, hb2⟩
        · by_cases c4 : 8 < d
          · have HB : Hid (cnB W H m c d = false) := hno (by omega)
            have HM : Hid (cnM W H m c d = 0) := by rw [Hid, cnM, HB.out]; rfl
            obtain ⟨n, hnn⟩ : ∃ n : Nat, n = W * H := ⟨_, rfl⟩
            rw [← hnn] at hWH c2 hn
            clear hs hno hnn
            go_enter Try.func15, Try.ntmps15
            go_wp2_with fail
            refine (H1.out _).mono ?_
            rintro e w1 ⟨rfl, rfl⟩
            go_wp2_with fail
            go_ret2
            exact ⟨by rw [HM.out, HB.out]; rfl, hb2⟩
          · obtain ⟨k, rfl⟩ : ∃ k : Nat, c = k := ⟨c.toNat, by omega⟩
            obtain ⟨q, rfl⟩ : ∃ q : Nat, d = q := ⟨d.toNat, by omega⟩
            have h12 : W * H ≤ 12 := by omega
            have hk : k < W * H := by omega
            have hk12 : k < 12 := by omega
            obtain ⟨e1, e2⟩ := cn_eq W H hW2 hH2 h12 m k q hk (by omega) 37 38 #[.pointer (some ⟨ws.heap.size, 0, none⟩)] #[.pointer (some ⟨ws.heap.size, 0, none⟩), .pointer (some ⟨ws.heap.size + 1, 0, none⟩)]
            have g1 : ∀ args w, (callFunc 37 args).run Try.prog w = .ok (.enter 37 args) w := enters_of Try.func37 (by kernel_rfl) rfl
            have g2 : ∀ args w, (callFunc 38 args).run Try.prog w = .ok (.enter 38 args) w := enters_of Try.func38 (by kernel_rfl) rfl
            have hC1 : ((ws.alloc (.cells #[.int .i64 (k : Int)] 3)).alloc (.cells #[.int .i64 (q : Int)] 3)).cell? ⟨ws.heap.size, 0, none⟩ = some (.int .i64 (k : Int)) := by
              have h := cell_of_block (heap_alloc_new ws (.cells #[.int .i64 (k : Int)] 3)) 0
              refine (World.cell?_of_block ?_).trans h
              exact Below.heap_alloc _ _ _ (by simp)
            have hC2 : ((ws.alloc (.cells #[.int .i64 (k : Int)] 3)).alloc (.cells #[.int .i64 (q : Int)] 3)).cell? ⟨ws.heap.size + 1, 0, none⟩ = some (.int .i64 (q : Int)) := by
              have h := cell_of_block (heap_alloc_new (ws.alloc (.cells #[.int .i64 (k : Int)] 3)) (.cells #[.int .i64 (q : Int)] 3)) 0
              have e : (ws.alloc (.cells #[.int .i64 (k : Int)] 3)).heap.size = ws.heap.size + 1 := by simp
              rw [e] at h
              exact h
            have hsz : ws.heap.size + 1 < ((ws.alloc (.cells #[.int .i64 (k : Int)] 3)).alloc (.cells #[.int .i64 (q : Int)] 3)).heap.size := by simp
            have hcw := fun (w1 : World) (hw1 : Below (ws.heap.size + 2) ((ws.alloc (.cells #[.int .i64 (k : Int)] 3)).alloc (.cells #[.int .i64 (q : Int)] 3)) w1) (a : Option Addr) (ca : Nat) (hat : At w1 a [.func (.func 37) #[] #[.pointer (some ⟨ws.heap.size, 0, none⟩)], .func (.func 38) #[] #[.pointer (some ⟨ws.heap.size, 0, none⟩), .pointer (some ⟨ws.heap.size + 1, 0, none⟩)]]) =>
              countWithMines_any W H m [⟨37, #[.pointer (some ⟨ws.heap.size, 0, none⟩)], fun x => ((x.at k).toNat : Int) == 46⟩, ⟨38, #[.pointer (some ⟨ws.heap.size, 0, none⟩), .pointer (some ⟨ws.heap.size + 1, 0, none⟩)], fun x => ((x.at (12 + k)).toNat : Int) == (q : Int)⟩] a ca w1 (by simp) (fun c hc => by
                have d1 := (hw1.cell (p := ⟨ws.heap.size, 0, none⟩) (by show ws.heap.size < _; omega)).trans hC1
                have d2 := (hw1.cell (p := ⟨ws.heap.size + 1, 0, none⟩) (by show ws.heap.size + 1 < _; omega)).trans hC2
                have b1 := World.block_lt_of_cell? _ _ d1
                have b2 := World.block_lt_of_cell? _ _ d2
                simp only [List.mem_cons, List.not_mem_nil, or_false] at hc
                rcases hc with rfl | rfl
                · exact ⟨g1, fun x W2 hW => cnFree_any x k ws.heap.size W2 hk12 ((hW.cell (p := ⟨ws.heap.size, 0, none⟩) b1).trans d1)⟩
                · exact ⟨g2, fun x W2 hW => cnNum_any x k ws.heap.size (ws.heap.size + 1) q W2 hk12 ((hW.cell (p := ⟨ws.heap.size, 0, none⟩) b1).trans d1) ((hW.cell (p := ⟨ws.heap.size + 1, 0, none⟩) b2).trans d2)⟩) hat
            rw [e1, ← e2] at hcw
            have HCW := Lib.hid hcw
            obtain ⟨n, hnn⟩ : ∃ n : Nat, n = W * H := ⟨_, rfl⟩
            rw [← hnn] at hWH c2 hn hk
            clear hs hno hnn hcw e1 e2 g1 g2 h12
            generalize hww : (ws.alloc (.cells #[.int .i64 (k : Int)] 3)).alloc (.cells #[.int .i64 (q : Int)] 3) = wB at *
            subst hww
            go_enter Try.func15, Try.ntmps15
            go_wp2_with fail
            refine (H1.out _).mono ?_
            rintro e w1 ⟨rfl, rfl⟩
            go_wp2_with fail
            have hat : At (((ws.alloc (.cells #[.int .i64 (k : Int)] 3)).alloc (.cells #[.int .i64 (q : Int)] 3)).alloc (.cells #[(.func (.func 37) #[] #[.pointer (some ⟨ws.heap.size, 0, none⟩)]), (.func (.func 38) #[] #[.pointer (some ⟨ws.heap.size, 0, none⟩), .pointer (some ⟨ws.heap.size + 1, 0, none⟩)])] 107)) (some ⟨ws.heap.size + 1 + 1, 0, none⟩) [(.func (.func 37) #[] #[.pointer (some ⟨ws.heap.size, 0, none⟩)]), (.func (.func 38) #[] #[.pointer (some ⟨ws.heap.size, 0, none⟩), .pointer (some ⟨ws.heap.size + 1, 0, none⟩)])] := fun j hj => by
              have e : ((ws.alloc (.cells #[.int .i64 (k : Int)] 3)).alloc (.cells #[.int .i64 (q : Int)] 3)).heap.size = ws.heap.size + 1 + 1 := by simp
              have h := cell_of_block (heap_alloc_new ((ws.alloc (.cells #[.int .i64 (k : Int)] 3)).alloc (.cells #[.int .i64 (q : Int)] 3)) (.cells #[(.func (.func 37) #[] #[.pointer (some ⟨ws.heap.size, 0, none⟩)]), (.func (.func 38) #[] #[.pointer (some ⟨ws.heap.size, 0, none⟩), .pointer (some ⟨ws.heap.size + 1, 0, none⟩)])] 107)) (0 + j)
              rw [e] at h
              refine ⟨_, _, rfl, ?_⟩
              rw [h]
              have hj2 : j = 0 ∨ j = 1 := by simp at hj; omega
              rcases hj2 with rfl | rfl <;> rfl
            have hbl : Below (ws.heap.size + 2) ((ws.alloc (.cells #[.int .i64 (k : Int)] 3)).alloc (.cells #[.int .i64 (q : Int)] 3)) (((ws.alloc (.cells #[.int .i64 (k : Int)] 3)).alloc (.cells #[.int .i64 (q : Int)] 3)).alloc (.cells #[(.func (.func 37) #[] #[.pointer (some ⟨ws.heap.size, 0, none⟩)]), (.func (.func 38) #[] #[.pointer (some ⟨ws.heap.size, 0, none⟩), .pointer (some ⟨ws.heap.size + 1, 0, none⟩)])] 107)) := (Below.refl _ _).alloc (by simp) _
            have hb3 : Below ws.heap.size ws (((ws.alloc (.cells #[.int .i64 (k : Int)] 3)).alloc (.cells #[.int .i64 (q : Int)] 3)).alloc (.cells #[(.func (.func 37) #[] #[.pointer (some ⟨ws.heap.size, 0, none⟩)]), (.func (.func 38) #[] #[.pointer (some ⟨ws.heap.size, 0, none⟩), .pointer (some ⟨ws.heap.size + 1, 0, none⟩)])] 107)) := hb2.trans (hbl.mono (by omega))
            refine (HCW.out _ hbl (some ⟨ws.heap.size + 1 + 1, 0, none⟩) 2 hat).mono ?_
            rintro e w2 ⟨rfl, hb4⟩
            have hb5 := hb3.trans (hb4.mono hb3.size)
            clear hb4 hb3 hbl hat hb2
            go_wp2_with fail
            go_ret2
            exact ⟨rfl, hb5⟩
end Go.Proofs.Ythlbplmghjaeoae
