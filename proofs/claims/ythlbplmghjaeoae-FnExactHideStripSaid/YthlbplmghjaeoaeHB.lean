/- Strips: signs that are looked for, by the program: whatever rune. -/
import Derived.Test.YthlbplmghjaeoaeShelf
import Derived.Test.YthlbplmghjaeoaeH3
import Derived.Laws.Runes
import Derived.Lib.IndexLaws
import Derived.Lib.IndexAny
import Derived.Deep.QuietTactic
import Derived.BigQuiet
import Derived.Deep.DeepCutAuto
import Derived.Scope
import Derived.IntWalk
namespace Go.Proofs.Ythlbplmghjaeoae
open Go.RowKit

theorem indexByte_absent : ∀ (l : List UInt8) (c : UInt8), (∀ x ∈ l, x ≠ c) → Lib.indexByte l c = -1
  | [], _, _ => rfl
  | b :: l, c, h => by
    have h1 : (b == c) = false := by simpa using h b List.mem_cons_self
    rw [Lib.indexByte, h1, indexByte_absent l c (fun x hx => h x (List.mem_cons_of_mem _ hx))]
    rfl

theorem idxStr (l : List UInt8) (k : Nat) (hk : k < l.length) (w : World) : (Instr.index 9 (.string ⟨l.toArray⟩) (.int .i64 k)).run Try.prog w = .ok (.int .u8 (l[k].toNat : Int)) w := by
  rw [run_index_string _ _ _ _ _ Try.underlying9]
  have h1 : (0 : Int) ≤ (k : Int) ∧ (k : Int) < ((ByteArray.mk l.toArray).size : Int) := by
    have e : (ByteArray.mk l.toArray).size = l.length := by simp [ByteArray.size]
    rw [e]; omega
  rw [dif_pos h1]
  rfl
theorem sliceStr (l : List UInt8) (k : Nat) (hk : k + 1 ≤ l.length) (w : World) : (Instr.slice 9 (.string ⟨l.toArray⟩) (some (.int .i64 ((k : Int) + 1))) none none).run Try.prog w = .ok (.string ⟨(l.drop (k + 1)).toArray⟩) w := by
  have e : (ByteArray.mk l.toArray).size = l.length := by simp [ByteArray.size]
  rw [run_slice_string_l (ht := Try.underlying9) (h0 := by omega) (h1 := by rw [e]; omega), e]
  congr 2
  apply ByteArray.ext
  rw [ByteArray.data_extract, show ((k : Int) + 1).toNat = k + 1 by omega, show l.length = l.toArray.size from by simp]
  apply Array.ext'
  simp
  rw [List.take_of_length_le (by simp)]
set_option maxRecDepth 100000 in
set_option maxHeartbeats 3200000 in
theorem indexRune_high (signs : List UInt8) (r : Int) (w : World) (hs : signs.length ≤ 8) (ha : ∀ c ∈ signs, c.toNat < 128) (h1 : 128 ≤ r) (_h2 : r ≤ 2147483647) :
    Calls Try.prog 98 #[.string ⟨signs.toArray⟩, .int .i32 r] w fun e w' => e = .returned (.int .i64 (-1)) ∧ Below w.heap.size w w' := by
  have h3 : ¬ r < 128 := by omega
  have h4 : (0 : Int) ≤ r := by omega
  by_cases hr : r = 65533
  · subst hr
    clear _h2
    go_enter Try.func98, Try.ntmps98
    go_wp2_with fail
    have hI : (w.iter ⟨signs.toArray⟩ 0).heap[w.heap.size]? = some (.stringIter ⟨signs.toArray⟩ 0) := World.iter_heap w _ _
    have hb2 : Below w.heap.size w (w.iter ⟨signs.toArray⟩ 0) := (Below.refl _ _).alloc (Nat.le_refl _) _
    generalize w.iter ⟨signs.toArray⟩ 0 = w2 at *
    generalize hII : w.heap.size = I at *
    have HII := Lib.hid hII
    clear hII
    go_loopw [5] (fun _ wr => ∃ k : Nat, k ≤ signs.length ∧ Hid (wr.heap[I]? = some (.stringIter ⟨signs.toArray⟩ k)) ∧ Below I w2 wr) (fun _ wr => signs.length - wr.iterPos I)
    case atStart => exact ⟨0, Nat.zero_le _, hI, Below.refl _ _⟩
    case round =>
      obtain ⟨k, hk, hIr, hb⟩ := hrel
      have hIlt := block_lt hIr.out
      by_cases hlt : k < signs.length
      · have hasc := ha _ (List.getElem_mem hlt)
        have hnx := fun ty => Lib.run_next_ascii_at (P := Try.prog) wr I ⟨signs.toArray⟩ k ty hIr.out (by simpa [ByteArray.size] using hlt) (by simpa using hasc)
        have hpos := Lib.hid (iterPos_at hIr.out)
        have i1 := iterAt_at hIlt ⟨signs.toArray⟩ (k + 1)
        have i2 := iterAt_below wr I ⟨signs.toArray⟩ (k + 1)
        have hd : ((signs[k].toNat : Int) == 65533) = false := by rw [beq_eq_false_iff_ne]; omega
        go_wp2_with fail
        clear hnx
        generalize wr.iterAt I ⟨signs.toArray⟩ (k + 1) = wi at *
        have ip := Lib.hid (iterPos_at i1)
        have I1 := Lib.hid i1
        clear i1
        go_roundw
        case rel => exact ⟨k + 1, by omega, I1, hb.trans i2⟩
        case measure => rw [hpos.out, ip.out]; omega
      · obtain rfl : k = signs.length := by omega
        have hnx := fun ty => Lib.run_next_end_at (P := Try.prog) wr I ⟨signs.toArray⟩ signs.length ty hIr.out (by simp [ByteArray.size])
        go_wp2_with fail
        go_ret
        exact ⟨rfl, by rw [HII.out]; exact hb2.trans hb⟩
  · have hq : (r == 65533) = false := by simpa using hr
    have hvr := fun w => Try.utf8_ValidRune r w
    have HVR := Lib.hid hvr
    clear hvr hr
    cases hv : Lib.validRune r with
    | false =>
      have HV := Lib.hid hv
      clear hv
      go_enter Try.func98, Try.ntmps98
      go_wp2_with fail
      refine (HVR.out _).mono ?_
      rintro e w1 ⟨rfl, rfl⟩
      rw [HV.out]
      go_wp2_with fail
      go_ret
      exact ⟨rfl, Below.refl _ _⟩
    | true =>
      have hu : Utf8.valid r = true := by rw [validRune_eq]; exact hv
      obtain ⟨e1, e2, e3⟩ := encode_facts r hu h1
      have HV := Lib.hid hv
      clear hv hu
      obtain ⟨rl, hrs⟩ : ∃ rl : List UInt8, Utf8.encode r = ⟨rl.toArray⟩ := ⟨(Utf8.encode r).data.toList, by simp⟩
      rw [hrs] at e1 e2
      simp only [hrs] at e3
      have hsz : (ByteArray.mk rl.toArray).size = rl.length := by simp [ByteArray.size]
      rw [hsz] at e1 e2
      obtain ⟨L, hL⟩ : ∃ L, rl.length = L + 1 := ⟨rl.length - 1, by omega⟩
      have hlt : L < rl.length := by omega
      have hlb : 128 ≤ (rl[L]'hlt).toNat := by
        have h5 := e3 (by rw [hsz]; omega)
        have h6 : (ByteArray.mk rl.toArray).size - 1 = L := by rw [hsz]; omega
        simp only [h6] at h5
        exact h5
      clear hsz
      clear e3
      go_enter Try.func98, Try.ntmps98
      go_wp2_with fail
      refine (HVR.out _).mono ?_
      rintro e w1 ⟨rfl, rfl⟩
      rw [HV.out]
      go_wp2_with fail
      clear HVR HV
      refine wp_scope_straight ?_
      go_wp2_with fail
      go_loop [9] (fun v => v = .int .i64 (L : Int)) (fun _ => 0)
      case atStart => rfl
      case round =>
        subst hrel
        by_cases hlt2 : L < signs.length
        · have hsl := ha _ (List.getElem_mem hlt2)
          have hne : ((signs[L].toNat : Int) == (rl[L].toNat : Int)) = false := by rw [beq_eq_false_iff_ne]; omega
          have hne2 : ((signs[L].toNat : Int) != (rl[L].toNat : Int)) = true := by simp; omega
          have hlu : rl[L].toNat < 256 := rl[L].toNat_lt
          have hib := fun w => Try.strings_IndexByte ⟨(signs.drop (L + 1)).toArray⟩ (rl[L].toNat : Int) w
          have habs : Lib.indexByte (signs.drop (L + 1)) ((rl[L].toNat : Int).toNat.toUInt8) = -1 := indexByte_absent _ _ (fun x hx e => by
            have h5 := ha x (List.mem_of_mem_drop hx)
            rw [e] at h5
            simp at h5
            omega)
          simp only at hib
          rw [habs] at hib
          have HIB := Lib.hid hib
          have hix := fun w => idxStr rl L hlt w
          have hsl := fun w => sliceStr signs L (by omega) w
          have hsl2 : ∀ w, (Instr.sliceAt 9 (.string ⟨signs.toArray⟩) (some (.int .i64 ((L : Int) + 1))) none none).run Try.prog w = .ok (.string ⟨(signs.drop (L + 1)).toArray⟩) w := fun w => by rw [run_sliceAt_string (h := Try.underlying9)]; exact hsl w
          clear hib habs hsl
          go_wp2_with fail
          refine wp_scope_straight ?_
          go_upto_region 6 with fail
          go_quiet (fail)
          go_upto_region 7 with fail
          have hbq : Below w1.heap.size w1 (w1.drewN nq) := below_drewN (Below.refl _ _) _
          generalize w1.drewN nq = w2 at *
          have hw1 : IntKind.i64.wrap ((L : Int) + 1) = (L : Int) + 1 := IntWalk.i64_in _ (by omega)
          have hw2 : (0 : Int) ≤ (L : Int) + 1 := by omega
          have hw3 : ((L : Int) + 1).toNat = L + 1 := by omega
          go_quiet ((go_at_call 105; exact Calls.quiet_of_same (HIB.out _)))
          have hbq2 := below_drewN hbq nq
          clear hw1 hw2 hw3
          go_wp2_with fail
          show bodyPost Try.prog Try.f98 (fun e w' => e = .returned (.int .i64 (-1)) ∧ Below w1.heap.size w1 w') Exit.ret _ _
          go_ret
          exact ⟨rfl, hbq2⟩
        · go_wp2_with fail
          go_ret
          exact ⟨rfl, Below.refl _ _⟩

set_option maxRecDepth 100000 in
theorem containsRune_high (signs : List UInt8) (r : Int) (w : World) (hs : signs.length ≤ 8) (ha : ∀ c ∈ signs, c.toNat < 128) (h1 : 128 ≤ r) (h2 : r ≤ 2147483647) :
    Calls Try.prog 83 #[.string ⟨signs.toArray⟩, .int .i32 r] w fun e w' => e = .returned (.bool false) ∧ Below w.heap.size w w' := by
  have HI := Lib.hid fun w => indexRune_high signs r w hs ha h1 h2
  clear h1 h2 hs ha
  go_enter Try.func83, Try.ntmps83
  go_wp2_with fail
  refine (HI.out _).mono ?_
  rintro e w1 ⟨rfl, hb1⟩
  go_wp2_with fail
  go_ret
  exact ⟨rfl, hb1⟩
set_option maxRecDepth 100000 in
theorem indexRune_low (signs : List UInt8) (c : UInt8) (w : World) (hc : c.toNat < 128) :
    Calls Try.prog 98 #[.string ⟨signs.toArray⟩, .int .i32 (c.toNat : Int)] w fun e w' => e = .returned (.int .i64 (Lib.indexByte signs c)) ∧ w = w' := by
  have hib := fun w => Try.strings_IndexByte ⟨signs.toArray⟩ (c.toNat : Int) w
  rw [show ((c.toNat : Int).toNat.toUInt8) = c by simp] at hib
  have HIB := Lib.hid hib
  have h2 : (c.toNat : Int) < 128 := by omega
  clear hib
  go_enter Try.func98, Try.ntmps98
  go_wp2_with fail
  refine (HIB.out _).mono ?_
  rintro e w1 ⟨rfl, rfl⟩
  go_wp2_with fail
  go_ret
  exact ⟨rfl, rfl⟩
set_option maxRecDepth 100000 in
theorem containsRune_low (signs : List UInt8) (c : UInt8) (w : World) (hc : c.toNat < 128) :
    Calls Try.prog 83 #[.string ⟨signs.toArray⟩, .int .i32 (c.toNat : Int)] w fun e w' => e = .returned (.bool (signs.contains c)) ∧ w = w' := by
  have HI := Lib.hid fun w => indexRune_low signs c w hc
  have hcn := Lib.contains_iff_indexByte signs c
  rw [hcn]
  clear hcn
  have hge := Lib.indexByte_ge signs c
  generalize Lib.indexByte signs c = ix at *
  go_enter Try.func83, Try.ntmps83
  go_wp2_with fail
  refine (HI.out _).mono ?_
  rintro e w1 ⟨rfl, rfl⟩
  go_wp2_with fail
  go_ret
  exact ⟨rfl, rfl⟩
/-- Is a text a row of 1 to 40 of some signs? -/
def rowOfM (l signs : List UInt8) : Bool := decide (1 ≤ l.length) && (decide (l.length ≤ 40) && l.all signs.contains)
theorem rowOf_st (l : List UInt8) : rowOfM l [63, 48, 49, 50] = stM l := by
  have e : (List.contains [63, 48, 49, 50] : UInt8 → Bool) = stB := by
    funext c
    have hx : ∀ n : Fin 256, List.contains [63, 48, 49, 50] (UInt8.ofNat n.val) = stB (UInt8.ofNat n.val) := by decide +kernel
    have := hx ⟨c.toNat, c.toNat_lt⟩
    simpa using this
  rw [rowOfM, stM, e]
theorem rowOf_ml (l : List UInt8) : rowOfM l [42, 46] = mlM l := by
  have e : (List.contains [42, 46] : UInt8 → Bool) = mlB := by
    funext c
    have hx : ∀ n : Fin 256, List.contains [42, 46] (UInt8.ofNat n.val) = mlB (UInt8.ofNat n.val) := by decide +kernel
    have := hx ⟨c.toNat, c.toNat_lt⟩
    simpa using this
  rw [rowOfM, mlM, e]

set_option maxRecDepth 100000 in
set_option maxHeartbeats 3200000 in
theorem isRowOf_any (l signs : List UInt8) (w : World) (hl : l.length ≤ 1048576) (hs : signs.length ≤ 8) (ha : ∀ c ∈ signs, c.toNat < 128) :
    Calls Try.prog 67 #[.string ⟨l.toArray⟩, .string ⟨signs.toArray⟩] w fun e w' => e = .returned (.bool (rowOfM l signs)) ∧ Below w.heap.size w w' := by
  by_cases h1 : 1 ≤ l.length
  · by_cases h40 : l.length ≤ 40
    · have hH := Lib.hid fun r w h1 h2 => containsRune_high signs r w hs ha h1 h2
      have hL := Lib.hid fun c w hc => containsRune_low signs c w hc
      have HA := Lib.hid ha
      clear ha
      have h1' : ¬ (l.length < 1) := by omega
      have h40' : ¬ (40 < l.length) := by omega
      have HR : Hid (rowOfM l signs = l.all signs.contains) := by rw [Hid, rowOfM, decide_eq_true h1, decide_eq_true h40]; rfl
      go_enter Try.func67, Try.ntmps67
      go_wp2_with fail
      have hI : (w.iter ⟨l.toArray⟩ 0).heap[w.heap.size]? = some (.stringIter ⟨l.toArray⟩ 0) := World.iter_heap w _ _
      have hb2 : Below w.heap.size w (w.iter ⟨l.toArray⟩ 0) := (Below.refl _ _).alloc (Nat.le_refl _) _
      generalize w.iter ⟨l.toArray⟩ 0 = w2 at *
      generalize hII : w.heap.size = I at *
      have HII := Lib.hid hII
      clear hII
      go_loopw [6] (fun _ wr => ∃ k : Nat, k ≤ l.length ∧ Hid (wr.heap[I]? = some (.stringIter ⟨l.toArray⟩ k)) ∧ Hid (∀ c ∈ l.take k, signs.contains c = true) ∧ Below I w2 wr) (fun _ wr => l.length - wr.iterPos I)
      case atStart => exact ⟨0, Nat.zero_le _, hI, Lib.hid (fun c hc => by simp at hc), Below.refl _ _⟩
      case round =>
        obtain ⟨k, hk, hIr, hT, hb⟩ := hrel
        have hIlt := block_lt hIr.out
        by_cases hlt : k < l.length
        · by_cases hasc : l[k].toNat < 128
          · have hnx := fun ty => Lib.run_next_ascii_at (P := Try.prog) wr I ⟨l.toArray⟩ k ty hIr.out (by simpa [ByteArray.size] using hlt) (by simpa using hasc)
            have hpos := Lib.hid (iterPos_at hIr.out)
            have i1 := iterAt_at hIlt ⟨l.toArray⟩ (k + 1)
            have i2 := iterAt_below wr I ⟨l.toArray⟩ (k + 1)
            have hc := fun w => hL.out l[k] w hasc
            have HS := Lib.hid (all_take_snoc signs.contains l k hlt hT.out)
            have HNO := Lib.hid (all_no (p := signs.contains) hlt)
            cases hcc : signs.contains l[k] with
            | true =>
              rw [hcc] at hc
              have HC := Lib.hid hc
              have HS2 := Lib.hid (HS.out hcc)
              clear hc hcc
              go_wp2_with fail
              clear hnx
              generalize wr.iterAt I ⟨l.toArray⟩ (k + 1) = wi at *
              have ip := Lib.hid (iterPos_at i1)
              have I1 := Lib.hid i1
              clear i1
              refine (HC.out _).mono ?_
              rintro e w5 ⟨rfl, rfl⟩
              go_wp2_with fail
              go_roundw
              case rel => exact ⟨k + 1, by omega, I1, HS2, hb.trans i2⟩
              case measure => rw [hpos.out, ip.out]; omega
            | false =>
              rw [hcc] at hc
              have HC := Lib.hid hc
              have HN2 := Lib.hid (HNO.out hcc)
              clear hc hcc
              go_wp2_with fail
              refine (HC.out _).mono ?_
              rintro e w5 ⟨rfl, rfl⟩
              go_wp2_with fail
              go_ret
              exact ⟨by rw [HR.out, HN2.out]; rfl, by rw [HII.out]; exact hb2.trans (hb.trans i2)⟩
          · have hkb : k < (ByteArray.mk l.toArray).size := by simpa [ByteArray.size] using hlt
            have hnx := fun ty => Lib.run_next_any_at (P := Try.prog) wr I ⟨l.toArray⟩ k ty hIr.out hkb
            have hdh := (decode_high ⟨l.toArray⟩ k hkb (by show 128 ≤ (l.toArray[k]).toNat; simp; omega)).1
            have hdl := decode_le ⟨l.toArray⟩ k
            have hno : signs.contains l[k] = false := by
              cases hcc : signs.contains l[k] with
              | false => rfl
              | true => exact absurd (HA.out _ (by simpa using hcc)) (by omega)
            have HN2 := Lib.hid (all_no (p := signs.contains) hlt hno)
            have i2 := iterAt_below wr I ⟨l.toArray⟩ (k + (Utf8.decode ⟨l.toArray⟩ k).2)
            clear hno
            generalize (Utf8.decode ⟨l.toArray⟩ k).1 = rn at *
            generalize (Utf8.decode ⟨l.toArray⟩ k).2 = rw2 at *
            have HC := Lib.hid fun w => hH.out (rn : Int) w (by omega) (by omega)
            clear hdh hdl
            go_wp2_with fail
            refine (HC.out _).mono ?_
            rintro e w5 ⟨rfl, hb5⟩
            go_wp2_with fail
            go_ret
            exact ⟨by rw [HR.out, HN2.out]; rfl, by
              rw [HII.out]
              have s1 : (wr.iterAt I ⟨l.toArray⟩ (k + rw2)).heap.size = wr.heap.size := iterAt_size _ _ _ _
              exact hb2.trans (hb.trans (i2.trans (hb5.mono (by omega))))⟩
        · obtain rfl : k = l.length := by omega
          have hnx := fun ty => Lib.run_next_end_at (P := Try.prog) wr I ⟨l.toArray⟩ l.length ty hIr.out (by simp [ByteArray.size])
          have HT := Lib.hid hT.out
          have hall : Hid (l.all signs.contains = true) := by
            rw [Hid, List.all_eq_true]
            intro c hc
            exact HT.out c (by rw [List.take_length]; exact hc)
          go_wp2_with fail
          go_ret
          exact ⟨by rw [HR.out, hall.out]; rfl, by rw [HII.out]; exact hb2.trans hb⟩
    · have HR : Hid (rowOfM l signs = false) := by rw [Hid, rowOfM, decide_eq_false h40]; simp
      have h1' : ¬ (l.length < 1) := by omega
      have h40' : 40 < l.length := by omega
      clear h40 h1 hs ha
      go_enter Try.func67, Try.ntmps67
      go_wp2_with fail
      go_ret
      exact ⟨by rw [HR.out]; rfl, Below.refl _ _⟩
  · have HR : Hid (rowOfM l signs = false) := by rw [Hid, rowOfM, decide_eq_false h1]; simp
    have h1' : l.length < 1 := by omega
    clear h1 hs ha
    go_enter Try.func67, Try.ntmps67
    go_wp2_with fail
    go_ret
    exact ⟨by rw [HR.out]; rfl, Below.refl _ _⟩

set_option maxRecDepth 100000 in
theorem iIsStrip_any (l : List UInt8) (w : World) (hl : l.length ≤ 1048576) :
    Calls Try.prog 56 #[.string ⟨l.toArray⟩] w fun e w' => e = .returned (.bool (stM l)) ∧ Below w.heap.size w w' := by
  have H := Lib.hid fun w => isRowOf_any l [63, 48, 49, 50] w hl (by decide) (by decide)
  have HR := Lib.hid (rowOf_st l)
  go_enter Try.func56, Try.ntmps56
  go_wp2_with fail
  refine (H.out _).mono ?_
  rintro e w1 ⟨rfl, hb⟩
  go_wp2_with fail
  go_ret
  exact ⟨by rw [HR.out]; rfl, hb⟩
end Go.Proofs.Ythlbplmghjaeoae
