/- Puzzles by the model: what a clue tells of a board, whether a board fits it. -/
import Derived.Test.YthlbplmghjaeoaaDoorA8
import Derived.Test.YthlbplmghjaeoaaDoorAE
import Derived.Test.YthlbplmghjaeoaaDoorN9
import Derived.Test.YthlbplmghjaeoaaDoorGN1
import Derived.Deep.RegionLaw
import Derived.Outline
namespace Go.Proofs.YthlbplmghjaeoaaDoor
open Go.RowKit

theorem isM_at (u : List UInt8) (k : Nat) (h : k < u.length) : isM u k = ((u[k].toNat : Int) == 42) := by
  rw [is42, isM, List.getD_eq_getElem?_getD, List.getElem?_eq_getElem h, Option.getD_some]
  rw [Bool.eq_iff_iff, beq_iff_eq, decide_eq_true_eq]
set_option maxRecDepth 100000 in
set_option maxHeartbeats 6400000 in
theorem pzValue_any (l : List UInt8) (W H : Nat) (cells : List UInt8) (k a : Int) (w : World) (hl : l.length ≤ 1048576) (hB : Brd l W H cells) (ha : k = 2 → 0 ≤ a ∧ a < cells.length) :
    Calls Tryd.prog 63 #[.int .i64 k, .int .i64 a, .string ⟨l.toArray⟩] w fun e w' => e = .returned (.int .i64 (vlC W cells k a : Nat)) ∧ Below w.heap.size w w' := by
  have h64 := hB.n64
  have hw1 := hB.w1
  have hw8 := hB.w8
  have HBS := Lib.hid (fun w => boSize_any l w hl)
  rw [hB.size] at HBS
  have HBC := Lib.hid (fun w => boCells_any l w hl)
  rw [hB.cs] at HBC
  have HBN := Lib.hid (fun (c : Nat) (hc : c < cells.length) w => boNumber_any W H cells c w ⟨hB.w1, hB.w8⟩ hB.h8 hB.len hc)
  have HSU := Lib.hid (fun w => boSum_any l W H cells w hl hB)
  have HAS : Hid (∀ k, (hk : k < cells.length) → cells[k].toNat < 128) := fun k hk => by rcases hB.sign _ (List.getElem_mem hk) with e | e <;> rw [e] <;> decide
  have HSNOC := Lib.hid (cntC_snoc W k a cells)
  have HLE := Lib.hid (cntC_le W k a cells)
  have HV : Hid (vlC W cells k a = if k = 2 then numM cells W a.toNat else if k = 5 then sumGo cells W 0 cells.length else cntC W k a cells cells.length) := rfl
  have HM := Lib.hid (isM_at cells)
  clear hB
  have dz : ((W : Int) == 0) = false := by simp; omega
  by_cases hk0 : k = 0
  · skip
    have b0 : (k == 0) = true := by rw [hk0]; rfl
    have b1 : (k == 1) = false := by rw [hk0]; rfl
    have b2 : (k == 2) = false := by rw [hk0]; rfl
    have b3 : (k == 3) = false := by rw [hk0]; rfl
    have b4 : (k == 4) = false := by rw [hk0]; rfl
    have b5 : (k == 5) = false := by rw [hk0]; rfl
    clear hk0
    have HSEL : Hid (∀ i, selC W k a i = ((i : Int) == a)) := fun i => by simp [selC, b0, b1, b3, b4]
    go_enter Tryd.func63, Tryd.ntmps63
    go_wp2_with fail
    refine (HBS.out _).mono ?_
    rintro e w1 ⟨rfl, hb1⟩
    go_wp2_with fail
    refine (HBC.out _).mono ?_
    rintro e w2 ⟨rfl, rfl⟩
    go_wp2_with fail
    have hI : (w1.iter ⟨cells.toArray⟩ 0).heap[w1.heap.size]? = some (.stringIter ⟨cells.toArray⟩ 0) := World.iter_heap w1 _ _
    have hbi : Below w.heap.size w (w1.iter ⟨cells.toArray⟩ 0) := hb1.alloc hb1.size _
    generalize w1.iter ⟨cells.toArray⟩ 0 = w4 at *
    generalize hII : w1.heap.size = I at *
    have HII := Lib.hid hII
    have HB1 := Lib.hid hb1
    clear hII hb1
    go_loopw [10] (fun s wr => ∃ j : Nat, j ≤ cells.length ∧ s = .int .i64 (cntC W k a cells j : Nat) ∧ Hid (wr.heap[I]? = some (.stringIter ⟨cells.toArray⟩ j)) ∧ Below I w4 wr) (fun _ wr => cells.length - wr.iterPos I)
    case atStart => exact ⟨0, Nat.zero_le _, rfl, hI, Below.refl _ _⟩
    case round =>
      obtain ⟨j, hj, rfl, hIr, hb⟩ := hrel
      have hIlt := block_lt hIr.out
      by_cases hlt : j < cells.length
      · have hasc := HAS.out j hlt
        have hnx := fun ty => Lib.run_next_ascii_at (P := Tryd.prog) wr I ⟨cells.toArray⟩ j ty hIr.out (by simpa [ByteArray.size] using hlt) (by simpa using hasc)
        have hpos := Lib.hid (iterPos_at hIr.out)
        have i1 := iterAt_at hIlt ⟨cells.toArray⟩ (j + 1)
        have i2 := iterAt_below wr I ⟨cells.toArray⟩ (j + 1)
        have HSj := Lib.hid (HSNOC.out j)
        have hlej := HLE.out j
        rw [HM.out j hlt] at HSj
        clear hasc
        generalize cntC W k a cells j = q at *
        have hq1 : IntKind.i64.wrap ((q : Int) + 1) = (q : Int) + 1 := IntWalk.i64_in _ ⟨by omega, by omega⟩
        cases dm : ((cells[j].toNat : Int) == 42) with
        | false =>
          rw [dm] at HSj
          have HS0 : Hid (cntC W k a cells (j + 1) = q) := by rw [Hid, HSj.out]; simp
          clear HSj
          go_wp2_with fail
          clear hnx
          go_roundw
          case rel => exact ⟨j + 1, by omega, by rw [HS0.out], i1, hb.trans i2⟩
          case measure => rw [hpos.out, iterPos_at i1]; omega
        | true =>
          rw [dm, HSEL.out, Bool.true_and] at HSj
          cases ds : ((j : Int) == a) with
          | false =>
            rw [ds] at HSj
            have HS0 : Hid (cntC W k a cells (j + 1) = q + 0) := by rw [Hid, HSj.out]; simp
            clear HSj
            go_wp2_with fail
            clear hnx
            go_roundw
            case rel => exact ⟨j + 1, by omega, by rw [HS0.out] <;> go_num, i1, hb.trans i2⟩
            case measure => rw [hpos.out, iterPos_at i1]; omega
          | true =>
            rw [ds] at HSj
            have HS0 : Hid (cntC W k a cells (j + 1) = q + 1) := by rw [Hid, HSj.out]; simp
            clear HSj
            go_wp2_with fail
            clear hnx
            go_roundw
            case rel => exact ⟨j + 1, by omega, by rw [HS0.out] <;> go_num, i1, hb.trans i2⟩
            case measure => rw [hpos.out, iterPos_at i1]; omega
      · obtain rfl : j = cells.length := by omega
        have hnx := fun ty => Lib.run_next_end_at (P := Tryd.prog) wr I ⟨cells.toArray⟩ cells.length ty hIr.out (by simp [ByteArray.size])
        have hB9 := hbi.trans (hb.mono (by rw [← HII.out]; exact HB1.out.size))
        have HVV : Hid (vlC W cells k a = cntC W k a cells cells.length) := by rw [Hid, HV.out, if_neg (by simpa using b2), if_neg (by simpa using b5)]
        go_wp2_with fail
        clear hnx
        go_ret
        exact ⟨by rw [HVV.out] <;> rfl, hB9⟩
  have k0 := hk0
  by_cases hk1 : k = 1
  · skip
    have b0 : (k == 0) = false := by rw [hk1]; rfl
    have b1 : (k == 1) = true := by rw [hk1]; rfl
    have b2 : (k == 2) = false := by rw [hk1]; rfl
    have b3 : (k == 3) = false := by rw [hk1]; rfl
    have b4 : (k == 4) = false := by rw [hk1]; rfl
    have b5 : (k == 5) = false := by rw [hk1]; rfl
    clear hk1
    have HSEL : Hid (∀ i, selC W k a i = true) := fun i => by simp [selC, b0, b1, b3, b4]
    go_enter Tryd.func63, Tryd.ntmps63
    go_wp2_with fail
    refine (HBS.out _).mono ?_
    rintro e w1 ⟨rfl, hb1⟩
    go_wp2_with fail
    refine (HBC.out _).mono ?_
    rintro e w2 ⟨rfl, rfl⟩
    go_wp2_with fail
    have hI : (w1.iter ⟨cells.toArray⟩ 0).heap[w1.heap.size]? = some (.stringIter ⟨cells.toArray⟩ 0) := World.iter_heap w1 _ _
    have hbi : Below w.heap.size w (w1.iter ⟨cells.toArray⟩ 0) := hb1.alloc hb1.size _
    generalize w1.iter ⟨cells.toArray⟩ 0 = w4 at *
    generalize hII : w1.heap.size = I at *
    have HII := Lib.hid hII
    have HB1 := Lib.hid hb1
    clear hII hb1
    go_loopw [10] (fun s wr => ∃ j : Nat, j ≤ cells.length ∧ s = .int .i64 (cntC W k a cells j : Nat) ∧ Hid (wr.heap[I]? = some (.stringIter ⟨cells.toArray⟩ j)) ∧ Below I w4 wr) (fun _ wr => cells.length - wr.iterPos I)
    case atStart => exact ⟨0, Nat.zero_le _, rfl, hI, Below.refl _ _⟩
    case round =>
      obtain ⟨j, hj, rfl, hIr, hb⟩ := hrel
      have hIlt := block_lt hIr.out
      by_cases hlt : j < cells.length
      · have hasc := HAS.out j hlt
        have hnx := fun ty => Lib.run_next_ascii_at (P := Tryd.prog) wr I ⟨cells.toArray⟩ j ty hIr.out (by simpa [ByteArray.size] using hlt) (by simpa using hasc)
        have hpos := Lib.hid (iterPos_at hIr.out)
        have i1 := iterAt_at hIlt ⟨cells.toArray⟩ (j + 1)
        have i2 := iterAt_below wr I ⟨cells.toArray⟩ (j + 1)
        have HSj := Lib.hid (HSNOC.out j)
        have hlej := HLE.out j
        rw [HM.out j hlt] at HSj
        clear hasc
        generalize cntC W k a cells j = q at *
        have hq1 : IntKind.i64.wrap ((q : Int) + 1) = (q : Int) + 1 := IntWalk.i64_in _ ⟨by omega, by omega⟩
        cases dm : ((cells[j].toNat : Int) == 42) with
        | false =>
          rw [dm] at HSj
          have HS0 : Hid (cntC W k a cells (j + 1) = q) := by rw [Hid, HSj.out]; simp
          clear HSj
          go_wp2_with fail
          clear hnx
          go_roundw
          case rel => exact ⟨j + 1, by omega, by rw [HS0.out], i1, hb.trans i2⟩
          case measure => rw [hpos.out, iterPos_at i1]; omega
        | true =>
          rw [dm, HSEL.out, Bool.true_and] at HSj
          have HS0 : Hid (cntC W k a cells (j + 1) = q + 1) := by rw [Hid, HSj.out]; simp
          clear HSj
          go_wp2_with fail
          clear hnx
          go_roundw
          case rel => exact ⟨j + 1, by omega, by rw [HS0.out] <;> go_num, i1, hb.trans i2⟩
          case measure => rw [hpos.out, iterPos_at i1]; omega
      · obtain rfl : j = cells.length := by omega
        have hnx := fun ty => Lib.run_next_end_at (P := Tryd.prog) wr I ⟨cells.toArray⟩ cells.length ty hIr.out (by simp [ByteArray.size])
        have hB9 := hbi.trans (hb.mono (by rw [← HII.out]; exact HB1.out.size))
        have HVV : Hid (vlC W cells k a = cntC W k a cells cells.length) := by rw [Hid, HV.out, if_neg (by simpa using b2), if_neg (by simpa using b5)]
        go_wp2_with fail
        clear hnx
        go_ret
        exact ⟨by rw [HVV.out] <;> rfl, hB9⟩
  have k1 := hk1
  by_cases hk2 : k = 2
  · skip
    have b0 : (k == 0) = false := by rw [hk2]; rfl
    have b1 : (k == 1) = false := by rw [hk2]; rfl
    have b2 : (k == 2) = true := by rw [hk2]; rfl
    have b3 : (k == 3) = false := by rw [hk2]; rfl
    have b4 : (k == 4) = false := by rw [hk2]; rfl
    have b5 : (k == 5) = false := by rw [hk2]; rfl
    clear hk2
    have HSEL : Hid (∀ i, selC W k a i = false) := fun i => by simp [selC, b0, b1, b3, b4]
    go_enter Tryd.func63, Tryd.ntmps63
    go_wp2_with fail
    refine (HBS.out _).mono ?_
    rintro e w1 ⟨rfl, hb1⟩
    go_wp2_with fail
    refine (HBC.out _).mono ?_
    rintro e w2 ⟨rfl, rfl⟩
    go_wp2_with fail
    have hI : (w1.iter ⟨cells.toArray⟩ 0).heap[w1.heap.size]? = some (.stringIter ⟨cells.toArray⟩ 0) := World.iter_heap w1 _ _
    have hbi : Below w.heap.size w (w1.iter ⟨cells.toArray⟩ 0) := hb1.alloc hb1.size _
    generalize w1.iter ⟨cells.toArray⟩ 0 = w4 at *
    generalize hII : w1.heap.size = I at *
    have HII := Lib.hid hII
    have HB1 := Lib.hid hb1
    clear hII hb1
    go_loopw [10] (fun s wr => ∃ j : Nat, j ≤ cells.length ∧ s = .int .i64 (cntC W k a cells j : Nat) ∧ Hid (wr.heap[I]? = some (.stringIter ⟨cells.toArray⟩ j)) ∧ Below I w4 wr) (fun _ wr => cells.length - wr.iterPos I)
    case atStart => exact ⟨0, Nat.zero_le _, rfl, hI, Below.refl _ _⟩
    case round =>
      obtain ⟨j, hj, rfl, hIr, hb⟩ := hrel
      have hIlt := block_lt hIr.out
      by_cases hlt : j < cells.length
      · have hasc := HAS.out j hlt
        have hnx := fun ty => Lib.run_next_ascii_at (P := Tryd.prog) wr I ⟨cells.toArray⟩ j ty hIr.out (by simpa [ByteArray.size] using hlt) (by simpa using hasc)
        have hpos := Lib.hid (iterPos_at hIr.out)
        have i1 := iterAt_at hIlt ⟨cells.toArray⟩ (j + 1)
        have i2 := iterAt_below wr I ⟨cells.toArray⟩ (j + 1)
        have HSj := Lib.hid (HSNOC.out j)
        have hlej := HLE.out j
        rw [HM.out j hlt] at HSj
        clear hasc
        generalize cntC W k a cells j = q at *
        have hq1 : IntKind.i64.wrap ((q : Int) + 1) = (q : Int) + 1 := IntWalk.i64_in _ ⟨by omega, by omega⟩
        cases dm : ((cells[j].toNat : Int) == 42) with
        | false =>
          rw [dm] at HSj
          have HS0 : Hid (cntC W k a cells (j + 1) = q) := by rw [Hid, HSj.out]; simp
          clear HSj
          go_wp2_with fail
          clear hnx
          go_roundw
          case rel => exact ⟨j + 1, by omega, by rw [HS0.out], i1, hb.trans i2⟩
          case measure => rw [hpos.out, iterPos_at i1]; omega
        | true =>
          rw [dm, HSEL.out, Bool.true_and] at HSj
          have HS0 : Hid (cntC W k a cells (j + 1) = q + 0) := by rw [Hid, HSj.out]; simp
          clear HSj
          go_wp2_with fail
          clear hnx
          go_roundw
          case rel => exact ⟨j + 1, by omega, by rw [HS0.out] <;> go_num, i1, hb.trans i2⟩
          case measure => rw [hpos.out, iterPos_at i1]; omega
      · obtain rfl : j = cells.length := by omega
        have hnx := fun ty => Lib.run_next_end_at (P := Tryd.prog) wr I ⟨cells.toArray⟩ cells.length ty hIr.out (by simp [ByteArray.size])
        have hB9 := hbi.trans (hb.mono (by rw [← HII.out]; exact HB1.out.size))
        obtain ⟨A, hA⟩ : ∃ A : Nat, a = A := ⟨a.toNat, by have := ha (by simpa using b2); omega⟩
        subst hA
        have hA2 : A < cells.length := by have := ha (by simpa using b2); omega
        have HVV : Hid (vlC W cells k A = numM cells W A) := by rw [Hid, HV.out, if_pos (by simpa using b2)]; simp
        go_wp2_with fail
        clear hnx
        refine (HBN.out A hA2 _).mono ?_
        rintro e w5 ⟨rfl, hb5⟩
        go_wp2_with fail
        go_ret
        exact ⟨by rw [HVV.out] <;> rfl, hB9.trans (hb5.mono hB9.size)⟩
  have k2 := hk2
  by_cases hk3 : k = 3
  · skip
    have b0 : (k == 0) = false := by rw [hk3]; rfl
    have b1 : (k == 1) = false := by rw [hk3]; rfl
    have b2 : (k == 2) = false := by rw [hk3]; rfl
    have b3 : (k == 3) = true := by rw [hk3]; rfl
    have b4 : (k == 4) = false := by rw [hk3]; rfl
    have b5 : (k == 5) = false := by rw [hk3]; rfl
    clear hk3
    have HSEL : Hid (∀ i, selC W k a i = (((i / W : Nat) : Int) == a)) := fun i => by simp [selC, b0, b1, b3, b4]
    go_enter Tryd.func63, Tryd.ntmps63
    go_wp2_with fail
    refine (HBS.out _).mono ?_
    rintro e w1 ⟨rfl, hb1⟩
    go_wp2_with fail
    refine (HBC.out _).mono ?_
    rintro e w2 ⟨rfl, rfl⟩
    go_wp2_with fail
    have hI : (w1.iter ⟨cells.toArray⟩ 0).heap[w1.heap.size]? = some (.stringIter ⟨cells.toArray⟩ 0) := World.iter_heap w1 _ _
    have hbi : Below w.heap.size w (w1.iter ⟨cells.toArray⟩ 0) := hb1.alloc hb1.size _
    generalize w1.iter ⟨cells.toArray⟩ 0 = w4 at *
    generalize hII : w1.heap.size = I at *
    have HII := Lib.hid hII
    have HB1 := Lib.hid hb1
    clear hII hb1
    go_loopw [10] (fun s wr => ∃ j : Nat, j ≤ cells.length ∧ s = .int .i64 (cntC W k a cells j : Nat) ∧ Hid (wr.heap[I]? = some (.stringIter ⟨cells.toArray⟩ j)) ∧ Below I w4 wr) (fun _ wr => cells.length - wr.iterPos I)
    case atStart => exact ⟨0, Nat.zero_le _, rfl, hI, Below.refl _ _⟩
    case round =>
      obtain ⟨j, hj, rfl, hIr, hb⟩ := hrel
      have hIlt := block_lt hIr.out
      by_cases hlt : j < cells.length
      · have hasc := HAS.out j hlt
        have hnx := fun ty => Lib.run_next_ascii_at (P := Tryd.prog) wr I ⟨cells.toArray⟩ j ty hIr.out (by simpa [ByteArray.size] using hlt) (by simpa using hasc)
        have hpos := Lib.hid (iterPos_at hIr.out)
        have i1 := iterAt_at hIlt ⟨cells.toArray⟩ (j + 1)
        have i2 := iterAt_below wr I ⟨cells.toArray⟩ (j + 1)
        have HSj := Lib.hid (HSNOC.out j)
        have hlej := HLE.out j
        rw [HM.out j hlt] at HSj
        clear hasc
        generalize cntC W k a cells j = q at *
        have hq1 : IntKind.i64.wrap ((q : Int) + 1) = (q : Int) + 1 := IntWalk.i64_in _ ⟨by omega, by omega⟩
        cases dm : ((cells[j].toNat : Int) == 42) with
        | false =>
          rw [dm] at HSj
          have HS0 : Hid (cntC W k a cells (j + 1) = q) := by rw [Hid, HSj.out]; simp
          clear HSj
          go_wp2_with fail
          clear hnx
          go_roundw
          case rel => exact ⟨j + 1, by omega, by rw [HS0.out], i1, hb.trans i2⟩
          case measure => rw [hpos.out, iterPos_at i1]; omega
        | true =>
          rw [dm, HSEL.out, Bool.true_and] at HSj
          rw [show ((j / W : Nat) : Int) = (j : Int) / (W : Int) from Int.natCast_ediv j W] at HSj
          have htd : Int.tdiv (j : Int) (W : Int) = (j : Int) / (W : Int) := Int.tdiv_eq_ediv_of_nonneg (by omega)
          have hdn : (0 : Int) ≤ (j : Int) / (W : Int) := Int.ediv_nonneg (by omega) (by omega)
          have hdl : (j : Int) / (W : Int) ≤ (j : Int) := Int.ediv_le_self _ (by omega)
          have hwd : wrap64 ((j : Int) / (W : Int)) = (j : Int) / (W : Int) := IntWalk.wrap64_in _ ⟨by omega, by omega⟩
          cases ds : ((j : Int) / (W : Int) == a) with
          | false =>
            rw [ds] at HSj
            have HS0 : Hid (cntC W k a cells (j + 1) = q + 0) := by rw [Hid, HSj.out]; simp
            clear HSj
            go_wp2_with fail
            clear hnx
            go_roundw
            case rel => exact ⟨j + 1, by omega, by rw [HS0.out] <;> go_num, i1, hb.trans i2⟩
            case measure => rw [hpos.out, iterPos_at i1]; omega
          | true =>
            rw [ds] at HSj
            have HS0 : Hid (cntC W k a cells (j + 1) = q + 1) := by rw [Hid, HSj.out]; simp
            clear HSj
            go_wp2_with fail
            clear hnx
            go_roundw
            case rel => exact ⟨j + 1, by omega, by rw [HS0.out] <;> go_num, i1, hb.trans i2⟩
            case measure => rw [hpos.out, iterPos_at i1]; omega
      · obtain rfl : j = cells.length := by omega
        have hnx := fun ty => Lib.run_next_end_at (P := Tryd.prog) wr I ⟨cells.toArray⟩ cells.length ty hIr.out (by simp [ByteArray.size])
        have hB9 := hbi.trans (hb.mono (by rw [← HII.out]; exact HB1.out.size))
        have HVV : Hid (vlC W cells k a = cntC W k a cells cells.length) := by rw [Hid, HV.out, if_neg (by simpa using b2), if_neg (by simpa using b5)]
        go_wp2_with fail
        clear hnx
        go_ret
        exact ⟨by rw [HVV.out] <;> rfl, hB9⟩
  have k3 := hk3
  by_cases hk4 : k = 4
  · skip
    have b0 : (k == 0) = false := by rw [hk4]; rfl
    have b1 : (k == 1) = false := by rw [hk4]; rfl
    have b2 : (k == 2) = false := by rw [hk4]; rfl
    have b3 : (k == 3) = false := by rw [hk4]; rfl
    have b4 : (k == 4) = true := by rw [hk4]; rfl
    have b5 : (k == 5) = false := by rw [hk4]; rfl
    clear hk4
    have HSEL : Hid (∀ i, selC W k a i = (((i % W : Nat) : Int) == a)) := fun i => by simp [selC, b0, b1, b3, b4]
    go_enter Tryd.func63, Tryd.ntmps63
    go_wp2_with fail
    refine (HBS.out _).mono ?_
    rintro e w1 ⟨rfl, hb1⟩
    go_wp2_with fail
    refine (HBC.out _).mono ?_
    rintro e w2 ⟨rfl, rfl⟩
    go_wp2_with fail
    have hI : (w1.iter ⟨cells.toArray⟩ 0).heap[w1.heap.size]? = some (.stringIter ⟨cells.toArray⟩ 0) := World.iter_heap w1 _ _
    have hbi : Below w.heap.size w (w1.iter ⟨cells.toArray⟩ 0) := hb1.alloc hb1.size _
    generalize w1.iter ⟨cells.toArray⟩ 0 = w4 at *
    generalize hII : w1.heap.size = I at *
    have HII := Lib.hid hII
    have HB1 := Lib.hid hb1
    clear hII hb1
    go_loopw [10] (fun s wr => ∃ j : Nat, j ≤ cells.length ∧ s = .int .i64 (cntC W k a cells j : Nat) ∧ Hid (wr.heap[I]? = some (.stringIter ⟨cells.toArray⟩ j)) ∧ Below I w4 wr) (fun _ wr => cells.length - wr.iterPos I)
    case atStart => exact ⟨0, Nat.zero_le _, rfl, hI, Below.refl _ _⟩
    case round =>
      obtain ⟨j, hj, rfl, hIr, hb⟩ := hrel
      have hIlt := block_lt hIr.out
      by_cases hlt : j < cells.length
      · have hasc := HAS.out j hlt
        have hnx := fun ty => Lib.run_next_ascii_at (P := Tryd.prog) wr I ⟨cells.toArray⟩ j ty hIr.out (by simpa [ByteArray.size] using hlt) (by simpa using hasc)
        have hpos := Lib.hid (iterPos_at hIr.out)
        have i1 := iterAt_at hIlt ⟨cells.toArray⟩ (j + 1)
        have i2 := iterAt_below wr I ⟨cells.toArray⟩ (j + 1)
        have HSj := Lib.hid (HSNOC.out j)
        have hlej := HLE.out j
        rw [HM.out j hlt] at HSj
        clear hasc
        generalize cntC W k a cells j = q at *
        have hq1 : IntKind.i64.wrap ((q : Int) + 1) = (q : Int) + 1 := IntWalk.i64_in _ ⟨by omega, by omega⟩
        cases dm : ((cells[j].toNat : Int) == 42) with
        | false =>
          rw [dm] at HSj
          have HS0 : Hid (cntC W k a cells (j + 1) = q) := by rw [Hid, HSj.out]; simp
          clear HSj
          go_wp2_with fail
          clear hnx
          go_roundw
          case rel => exact ⟨j + 1, by omega, by rw [HS0.out], i1, hb.trans i2⟩
          case measure => rw [hpos.out, iterPos_at i1]; omega
        | true =>
          rw [dm, HSEL.out, Bool.true_and] at HSj
          rw [show ((j % W : Nat) : Int) = (j : Int) % (W : Int) from Int.natCast_emod j W] at HSj
          have htd : Int.tmod (j : Int) (W : Int) = (j : Int) % (W : Int) := Int.tmod_eq_emod_of_nonneg (by omega)
          have hdn : (0 : Int) ≤ (j : Int) % (W : Int) := Int.emod_nonneg _ (by omega)
          have hdl : (j : Int) % (W : Int) < (W : Int) := Int.emod_lt_of_pos _ (by omega)
          have hwd : wrap64 ((j : Int) % (W : Int)) = (j : Int) % (W : Int) := IntWalk.wrap64_in _ ⟨by omega, by omega⟩
          cases ds : ((j : Int) % (W : Int) == a) with
          | false =>
            rw [ds] at HSj
            have HS0 : Hid (cntC W k a cells (j + 1) = q + 0) := by rw [Hid, HSj.out]; simp
            clear HSj
            go_wp2_with fail
            clear hnx
            go_roundw
            case rel => exact ⟨j + 1, by omega, by rw [HS0.out] <;> go_num, i1, hb.trans i2⟩
            case measure => rw [hpos.out, iterPos_at i1]; omega
          | true =>
            rw [ds] at HSj
            have HS0 : Hid (cntC W k a cells (j + 1) = q + 1) := by rw [Hid, HSj.out]; simp
            clear HSj
            go_wp2_with fail
            clear hnx
            go_roundw
            case rel => exact ⟨j + 1, by omega, by rw [HS0.out] <;> go_num, i1, hb.trans i2⟩
            case measure => rw [hpos.out, iterPos_at i1]; omega
      · obtain rfl : j = cells.length := by omega
        have hnx := fun ty => Lib.run_next_end_at (P := Tryd.prog) wr I ⟨cells.toArray⟩ cells.length ty hIr.out (by simp [ByteArray.size])
        have hB9 := hbi.trans (hb.mono (by rw [← HII.out]; exact HB1.out.size))
        have HVV : Hid (vlC W cells k a = cntC W k a cells cells.length) := by rw [Hid, HV.out, if_neg (by simpa using b2), if_neg (by simpa using b5)]
        go_wp2_with fail
        clear hnx
        go_ret
        exact ⟨by rw [HVV.out] <;> rfl, hB9⟩
  have k4 := hk4
  by_cases hk5 : k = 5
  · skip
    have b0 : (k == 0) = false := by rw [hk5]; rfl
    have b1 : (k == 1) = false := by rw [hk5]; rfl
    have b2 : (k == 2) = false := by rw [hk5]; rfl
    have b3 : (k == 3) = false := by rw [hk5]; rfl
    have b4 : (k == 4) = false := by rw [hk5]; rfl
    have b5 : (k == 5) = true := by rw [hk5]; rfl
    clear hk5
    have HSEL : Hid (∀ i, selC W k a i = false) := fun i => by simp [selC, b0, b1, b3, b4]
    go_enter Tryd.func63, Tryd.ntmps63
    go_wp2_with fail
    refine (HBS.out _).mono ?_
    rintro e w1 ⟨rfl, hb1⟩
    go_wp2_with fail
    refine (HBC.out _).mono ?_
    rintro e w2 ⟨rfl, rfl⟩
    go_wp2_with fail
    have hI : (w1.iter ⟨cells.toArray⟩ 0).heap[w1.heap.size]? = some (.stringIter ⟨cells.toArray⟩ 0) := World.iter_heap w1 _ _
    have hbi : Below w.heap.size w (w1.iter ⟨cells.toArray⟩ 0) := hb1.alloc hb1.size _
    generalize w1.iter ⟨cells.toArray⟩ 0 = w4 at *
    generalize hII : w1.heap.size = I at *
    have HII := Lib.hid hII
    have HB1 := Lib.hid hb1
    clear hII hb1
    go_loopw [10] (fun s wr => ∃ j : Nat, j ≤ cells.length ∧ s = .int .i64 (cntC W k a cells j : Nat) ∧ Hid (wr.heap[I]? = some (.stringIter ⟨cells.toArray⟩ j)) ∧ Below I w4 wr) (fun _ wr => cells.length - wr.iterPos I)
    case atStart => exact ⟨0, Nat.zero_le _, rfl, hI, Below.refl _ _⟩
    case round =>
      obtain ⟨j, hj, rfl, hIr, hb⟩ := hrel
      have hIlt := block_lt hIr.out
      by_cases hlt : j < cells.length
      · have hasc := HAS.out j hlt
        have hnx := fun ty => Lib.run_next_ascii_at (P := Tryd.prog) wr I ⟨cells.toArray⟩ j ty hIr.out (by simpa [ByteArray.size] using hlt) (by simpa using hasc)
        have hpos := Lib.hid (iterPos_at hIr.out)
        have i1 := iterAt_at hIlt ⟨cells.toArray⟩ (j + 1)
        have i2 := iterAt_below wr I ⟨cells.toArray⟩ (j + 1)
        have HSj := Lib.hid (HSNOC.out j)
        have hlej := HLE.out j
        rw [HM.out j hlt] at HSj
        clear hasc
        generalize cntC W k a cells j = q at *
        have hq1 : IntKind.i64.wrap ((q : Int) + 1) = (q : Int) + 1 := IntWalk.i64_in _ ⟨by omega, by omega⟩
        cases dm : ((cells[j].toNat : Int) == 42) with
        | false =>
          rw [dm] at HSj
          have HS0 : Hid (cntC W k a cells (j + 1) = q) := by rw [Hid, HSj.out]; simp
          clear HSj
          go_wp2_with fail
          clear hnx
          go_roundw
          case rel => exact ⟨j + 1, by omega, by rw [HS0.out], i1, hb.trans i2⟩
          case measure => rw [hpos.out, iterPos_at i1]; omega
        | true =>
          rw [dm, HSEL.out, Bool.true_and] at HSj
          have HS0 : Hid (cntC W k a cells (j + 1) = q + 0) := by rw [Hid, HSj.out]; simp
          clear HSj
          go_wp2_with fail
          clear hnx
          go_roundw
          case rel => exact ⟨j + 1, by omega, by rw [HS0.out] <;> go_num, i1, hb.trans i2⟩
          case measure => rw [hpos.out, iterPos_at i1]; omega
      · obtain rfl : j = cells.length := by omega
        have hnx := fun ty => Lib.run_next_end_at (P := Tryd.prog) wr I ⟨cells.toArray⟩ cells.length ty hIr.out (by simp [ByteArray.size])
        have hB9 := hbi.trans (hb.mono (by rw [← HII.out]; exact HB1.out.size))
        have HVV : Hid (vlC W cells k a = sumGo cells W 0 cells.length) := by rw [Hid, HV.out, if_neg (by simpa using b2), if_pos (by simpa using b5)]
        go_wp2_with fail
        clear hnx
        refine (HSU.out _).mono ?_
        rintro e w5 ⟨rfl, hb5⟩
        go_wp2_with fail
        go_ret
        exact ⟨by rw [HVV.out] <;> rfl, hB9.trans (hb5.mono hB9.size)⟩
  have k5 := hk5
  clear hk0 hk1 hk2 hk3 hk4 hk5
  have b0 : (k == 0) = false := by simpa using k0
  have b1 : (k == 1) = false := by simpa using k1
  have b2 : (k == 2) = false := by simpa using k2
  have b3 : (k == 3) = false := by simpa using k3
  have b4 : (k == 4) = false := by simpa using k4
  have b5 : (k == 5) = false := by simpa using k5
  have HSEL : Hid (∀ i, selC W k a i = false) := fun i => by simp [selC, b0, b1, b3, b4]
  go_enter Tryd.func63, Tryd.ntmps63
  go_wp2_with fail
  refine (HBS.out _).mono ?_
  rintro e w1 ⟨rfl, hb1⟩
  go_wp2_with fail
  refine (HBC.out _).mono ?_
  rintro e w2 ⟨rfl, rfl⟩
  go_wp2_with fail
  have hI : (w1.iter ⟨cells.toArray⟩ 0).heap[w1.heap.size]? = some (.stringIter ⟨cells.toArray⟩ 0) := World.iter_heap w1 _ _
  have hbi : Below w.heap.size w (w1.iter ⟨cells.toArray⟩ 0) := hb1.alloc hb1.size _
  generalize w1.iter ⟨cells.toArray⟩ 0 = w4 at *
  generalize hII : w1.heap.size = I at *
  have HII := Lib.hid hII
  have HB1 := Lib.hid hb1
  clear hII hb1
  go_loopw [10] (fun s wr => ∃ j : Nat, j ≤ cells.length ∧ s = .int .i64 (cntC W k a cells j : Nat) ∧ Hid (wr.heap[I]? = some (.stringIter ⟨cells.toArray⟩ j)) ∧ Below I w4 wr) (fun _ wr => cells.length - wr.iterPos I)
  case atStart => exact ⟨0, Nat.zero_le _, rfl, hI, Below.refl _ _⟩
  case round =>
    obtain ⟨j, hj, rfl, hIr, hb⟩ := hrel
    have hIlt := block_lt hIr.out
    by_cases hlt : j < cells.length
    · have hasc := HAS.out j hlt
      have hnx := fun ty => Lib.run_next_ascii_at (P := Tryd.prog) wr I ⟨cells.toArray⟩ j ty hIr.out (by simpa [ByteArray.size] using hlt) (by simpa using hasc)
      have hpos := Lib.hid (iterPos_at hIr.out)
      have i1 := iterAt_at hIlt ⟨cells.toArray⟩ (j + 1)
      have i2 := iterAt_below wr I ⟨cells.toArray⟩ (j + 1)
      have HSj := Lib.hid (HSNOC.out j)
      have hlej := HLE.out j
      rw [HM.out j hlt] at HSj
      clear hasc
      generalize cntC W k a cells j = q at *
      have hq1 : IntKind.i64.wrap ((q : Int) + 1) = (q : Int) + 1 := IntWalk.i64_in _ ⟨by omega, by omega⟩
      cases dm : ((cells[j].toNat : Int) == 42) with
      | false =>
        rw [dm] at HSj
        have HS0 : Hid (cntC W k a cells (j + 1) = q) := by rw [Hid, HSj.out]; simp
        clear HSj
        go_wp2_with fail
        clear hnx
        go_roundw
        case rel => exact ⟨j + 1, by omega, by rw [HS0.out], i1, hb.trans i2⟩
        case measure => rw [hpos.out, iterPos_at i1]; omega
      | true =>
        rw [dm, HSEL.out, Bool.true_and] at HSj
        have HS0 : Hid (cntC W k a cells (j + 1) = q + 0) := by rw [Hid, HSj.out]; simp
        clear HSj
        go_wp2_with fail
        clear hnx
        go_roundw
        case rel => exact ⟨j + 1, by omega, by rw [HS0.out] <;> go_num, i1, hb.trans i2⟩
        case measure => rw [hpos.out, iterPos_at i1]; omega
    · obtain rfl : j = cells.length := by omega
      have hnx := fun ty => Lib.run_next_end_at (P := Tryd.prog) wr I ⟨cells.toArray⟩ cells.length ty hIr.out (by simp [ByteArray.size])
      have hB9 := hbi.trans (hb.mono (by rw [← HII.out]; exact HB1.out.size))
      have HVV : Hid (vlC W cells k a = cntC W k a cells cells.length) := by rw [Hid, HV.out, if_neg (by simpa using b2), if_neg (by simpa using b5)]
      go_wp2_with fail
      clear hnx
      go_ret
      exact ⟨by rw [HVV.out] <;> rfl, hB9⟩
end Go.Proofs.YthlbplmghjaeoaaDoor
