/- Strips: the lists with a mine in a cell, counted, by the model; the sure signs, by the model. -/
import Derived.Test.YtajabfegeeepeaaHY
import Derived.Test.YtajabfegeeepeaaHK
namespace Go.Proofs.Ytajabfegeeepeaa
open Go.RowKit

/-- Whether there are a strip and a cell of it. -/
def catB (l : List UInt8) (c : Int) : Bool := stM l && inB c 0 ((l.length : Int) - 1)
def catV (l : List UInt8) (c : Int) : Nat := if catB l c = true then stAtM l c.toNat else 0
theorem cat_no {l : List UInt8} {c : Int} (h : catB l c = false) : catV l c = 0 := by rw [catV, h]; rfl
theorem cat_yes {l : List UInt8} {k : Nat} (h : stM l = true) (hk : k < l.length) : catB l (k : Int) = true ∧ catV l (k : Int) = stAtM l k := by
  have e : catB l (k : Int) = true := by
    rw [catB, h]
    simp [inB]
    omega
  exact ⟨e, by rw [catV, if_pos e]; rfl⟩
theorem cat_bad {l : List UInt8} {c : Int} (h : stM l = false) : catB l c = false := by rw [catB, h]; rfl
theorem cat_out {l : List UInt8} {c : Int} (h : ¬ (0 ≤ c ∧ c < (l.length : Int))) : catB l c = false := by
  rw [catB]; simp [inB]; intro _; omega

set_option maxRecDepth 100000 in
set_option maxHeartbeats 1600000 in
theorem sCountStripAt_any (l : List UInt8) (c : Int) (w : World) (hl : l.length ≤ 1048576) :
    Calls Try.prog 20 #[.string ⟨l.toArray⟩, .int .i64 c] w fun e w' => e = .returned (.tuple #[.int .i64 (catV l c : Nat), .bool (catB l c)]) ∧ Below w.heap.size w w' := by
  have hgd := fun w => stGood_any l w hl
  cases hg : stM l with
  | false =>
    rw [hg] at hgd
    have HG := Lib.hid hgd
    have e := cat_bad (c := c) hg
    rw [cat_no e, e]
    clear hgd hg e
    go_enter Try.func20, Try.ntmps20
    go_wp2_with fail
    refine (HG.out _).mono ?_
    rintro e w1 ⟨rfl, hb1⟩
    go_wp2_with fail
    go_ret2
    exact ⟨rfl, hb1⟩
  | true =>
    rw [hg] at hgd
    have HG := Lib.hid hgd
    by_cases hc : 0 ≤ c ∧ c < (l.length : Int)
    · obtain ⟨k, rfl⟩ : ∃ k : Nat, c = (k : Int) := ⟨c.toNat, by omega⟩
      have hk : k < l.length := by omega
      obtain ⟨e1, e2⟩ := cat_yes hg hk
      rw [e1, e2]
      have HIN := Lib.hid fun w => l1In_yes (k : Int) 0 ((l.length : Int) - 1) w (by omega)
      have HAT := Lib.hid fun w => stAt_any l hg k hk w
      clear hgd hg e1 e2 hc hk
      go_enter Try.func20, Try.ntmps20
      go_wp2_with fail
      refine (HG.out _).mono ?_
      rintro e w1 ⟨rfl, hb1⟩
      go_wp2_with fail
      refine (HIN.out _).mono ?_
      rintro e w2 ⟨rfl, rfl⟩
      go_wp2_with fail
      refine (HAT.out _).mono ?_
      rintro e w3 ⟨rfl, hb3⟩
      go_wp2_with fail
      go_ret2
      exact ⟨rfl, hb1.trans (hb3.mono hb1.size)⟩
    · have e := cat_out hc
      rw [cat_no e, e]
      have HIN := Lib.hid fun w => l1In_no c 0 ((l.length : Int) - 1) w (by omega)
      clear hgd hg e hc
      go_enter Try.func20, Try.ntmps20
      go_wp2_with fail
      refine (HG.out _).mono ?_
      rintro e w1 ⟨rfl, hb1⟩
      go_wp2_with fail
      refine (HIN.out _).mono ?_
      rintro e w2 ⟨rfl, rfl⟩
      go_wp2_with fail
      go_ret2
      exact ⟨rfl, hb1⟩

/-- The sure sign of a cell. -/
def suC (s : List UInt8) (k : Nat) : UInt8 := if stAtM s k = 0 then 46 else if stAtM s k = allC s [] then 42 else 63
def suK (s : List UInt8) (k : Nat) : List UInt8 := (List.range k).map (suC s)
def suM (s : List UInt8) : List UInt8 := suK s s.length
@[simp] theorem suK_length (s : List UInt8) (k : Nat) : (suK s k).length = k := by simp [suK]
theorem suK_snoc (s : List UInt8) (k : Nat) : suK s k ++ [suC s k] = suK s (k + 1) := by simp [suK, List.range_succ]
theorem suC_ascii (s : List UInt8) (k : Nat) : suC s k = 46 ∨ suC s k = 42 ∨ suC s k = 63 := by
  unfold suC
  split
  · exact .inl rfl
  · split
    · exact .inr (.inl rfl)
    · exact .inr (.inr rfl)
theorem stAtM_le {s : List UInt8} (h40 : s.length ≤ 40) {cell : Nat} (hc : cell < s.length) : stAtM s cell ≤ 4398046511104 := by
  rw [← aq_all]
  exact aq_le h40 hc 4 (Nat.le_refl _)
theorem allC_nil {s : List UInt8} (h40 : s.length ≤ 40) : sumN 41 (fitW s []) = allC s [] := fitW_all s [] h40
theorem allC_le {s : List UInt8} (h40 : s.length ≤ 40) : allC s [] ≤ 4611686018427387904 := by
  rw [← allC_nil h40]
  exact fitW_tot40 s [] h40
set_option maxRecDepth 100000 in
set_option maxHeartbeats 3200000 in
theorem stSure_any (s : List UInt8) (hg : stM s = true) (w : World) :
    Calls Try.prog 53 #[.string ⟨s.toArray⟩] w fun e w' => e = .returned (.string ⟨(suM s).toArray⟩) ∧ Below w.heap.size w w' := by
  obtain ⟨hn1, hn40, hst⟩ := stM_facts hg
  have hall := fun w => stAll_nil s hg w
  rw [allC_nil hn40] at hall
  have HALL := Lib.hid hall
  have HAT := Lib.hid fun k hk w => stAt_any s hg k hk w
  have HAL := Lib.hid fun k hk => stAtM_le hn40 (cell := k) hk
  have hAl := allC_le hn40
  have HSC : Hid (∀ k, suC s k = if stAtM s k = 0 then 46 else if stAtM s k = allC s [] then 42 else 63) := fun _ => rfl
  have HSM : Hid (suM s = suK s s.length) := rfl
  have HST := Lib.hid hst
  clear hall hst hg
  generalize allC s [] = A at *
  go_enter Try.func53, Try.ntmps53
  go_wp2_with fail
  refine (HALL.out _).mono ?_
  rintro e w1 ⟨rfl, hb1⟩
  go_wp2_with fail
  have hI : (w1.iter ⟨s.toArray⟩ 0).heap[w1.heap.size]? = some (.stringIter ⟨s.toArray⟩ 0) := World.iter_heap w1 _ _
  have hb2 : Below w.heap.size w (w1.iter ⟨s.toArray⟩ 0) := hb1.trans (((Below.refl _ _).alloc (Nat.le_refl _) _).mono hb1.size)
  have hws := hb1.size
  generalize w1.iter ⟨s.toArray⟩ 0 = w2 at *
  generalize hII : w1.heap.size = I at *
  clear hII hb1
  go_loopw [4] (fun o wr => ∃ k : Nat, k ≤ s.length ∧ o = .string ⟨(suK s k).toArray⟩ ∧ Hid (wr.heap[I]? = some (.stringIter ⟨s.toArray⟩ k)) ∧ Below w.heap.size w wr) (fun _ wr => s.length - wr.iterPos I)
  case atStart => exact ⟨0, Nat.zero_le _, rfl, hI, hb2⟩
  case round =>
    clear hI hb2
    obtain ⟨k, hk, rfl, hIr, hb⟩ := hrel
    have hIlt := block_lt hIr.out
    by_cases hlt : k < s.length
    · have hasc := stB_ascii (HST.out _ (List.getElem_mem hlt))
      have hnx := fun ty => Lib.run_next_ascii_at (P := Try.prog) wr I ⟨s.toArray⟩ k ty hIr.out (by simpa [ByteArray.size] using hlt) (by simpa using hasc)
      have hpos := Lib.hid (iterPos_at hIr.out)
      have i1 := iterAt_at hIlt ⟨s.toArray⟩ (k + 1)
      have i2 := iterAt_below wr I ⟨s.toArray⟩ (k + 1)
      have hbi : Below w.heap.size w (wr.iterAt I ⟨s.toArray⟩ (k + 1)) := hb.trans (i2.mono hws)
      have hat := fun w => HAT.out k hlt w
      have hsl := HAL.out k hlt
      have hsc := Lib.hid (HSC.out k)
      have hsn := Lib.hid (suK_snoc s k)
      have hskl : (suK s k).length ≤ 40 := by rw [suK_length]; omega
      generalize stAtM s k = T at *
      generalize suC s k = u at *
      generalize hSK : suK s k = S at *
      have HSK := Lib.hid hSK
      clear hSK hasc
      have hmx : ¬ (9223372036854775807 < S.length + 1) := by omega
      have hat2 := Lib.hid hat
      clear hat
      by_cases h0 : T = 0
      · have hz : ((T : Int) == 0) = true := by rw [h0]; rfl
        have HU : Hid (u = 46) := by rw [Hid, hsc.out, if_pos h0]
        clear h0
        go_upto_region 6 with fail
        clear hnx
        generalize wr.iterAt I ⟨s.toArray⟩ (k + 1) = wi at *
        have hIlt5 := block_lt i1
        have hwi := hbi.size
        go_wp2_with fail
        refine (hat2.out _).mono ?_
        rintro e w6 ⟨rfl, hb6⟩
        go_wp2_with fail
        have hI7 := (hb6.block _ hIlt5).trans i1
        have ip := Lib.hid (iterPos_at hI7)
        go_roundw
        case rel => exact ⟨k + 1, by omega, by rw [← hsn.out, HU.out], hI7, hbi.trans (hb6.mono hwi)⟩
        case measure => rw [hpos.out, ip.out]; omega
      · have hz : ((T : Int) == 0) = false := by rw [beq_eq_false_iff_ne]; omega
        by_cases h1 : T = A
        · have hza : ((T : Int) == (A : Int)) = true := by rw [h1]; exact beq_self_eq_true _
          have HU : Hid (u = 42) := by rw [Hid, hsc.out, if_neg h0, if_pos h1]
          clear h0 h1
          go_upto_region 6 with fail
          clear hnx
          generalize wr.iterAt I ⟨s.toArray⟩ (k + 1) = wi at *
          have hIlt5 := block_lt i1
          have hwi := hbi.size
          go_wp2_with fail
          refine (hat2.out _).mono ?_
          rintro e w6 ⟨rfl, hb6⟩
          go_wp2_with fail
          have hI7 := (hb6.block _ hIlt5).trans i1
          have ip := Lib.hid (iterPos_at hI7)
          go_roundw
          case rel => exact ⟨k + 1, by omega, by rw [← hsn.out, HU.out], hI7, hbi.trans (hb6.mono hwi)⟩
          case measure => rw [hpos.out, ip.out]; omega
        · have hza : ((T : Int) == (A : Int)) = false := by rw [beq_eq_false_iff_ne]; omega
          have HU : Hid (u = 63) := by rw [Hid, hsc.out, if_neg h0, if_neg h1]
          clear h0 h1
          go_upto_region 6 with fail
          clear hnx
          generalize wr.iterAt I ⟨s.toArray⟩ (k + 1) = wi at *
          have hIlt5 := block_lt i1
          have hwi := hbi.size
          go_wp2_with fail
          refine (hat2.out _).mono ?_
          rintro e w6 ⟨rfl, hb6⟩
          go_wp2_with fail
          have hI7 := (hb6.block _ hIlt5).trans i1
          have ip := Lib.hid (iterPos_at hI7)
          go_roundw
          case rel => exact ⟨k + 1, by omega, by rw [← hsn.out, HU.out], hI7, hbi.trans (hb6.mono hwi)⟩
          case measure => rw [hpos.out, ip.out]; omega
    · obtain rfl : k = s.length := by omega
      have hnx := fun ty => Lib.run_next_end_at (P := Try.prog) wr I ⟨s.toArray⟩ s.length ty hIr.out (by simp [ByteArray.size])
      go_wp2_with fail
      go_ret
      exact ⟨by rw [HSM.out]; rfl, hb⟩

/-- Whether a list fits a strip at all. -/
def sureB (l : List UInt8) : Bool := stM l && !(allC l [] == 0)
def sureV (l : List UInt8) : List UInt8 := if sureB l = true then suM l else []
theorem sure_no {l : List UInt8} (h : sureB l = false) : sureV l = [] := by rw [sureV, h]; rfl
theorem sure_yes {l : List UInt8} (h : sureB l = true) : sureV l = suM l := by rw [sureV, if_pos h]
set_option maxRecDepth 100000 in
set_option maxHeartbeats 1600000 in
theorem sSureStrip_any (l : List UInt8) (w : World) (hl : l.length ≤ 1048576) :
    Calls Try.prog 22 #[.string ⟨l.toArray⟩] w fun e w' => e = .returned (.tuple #[.string ⟨(sureV l).toArray⟩, .bool (sureB l)]) ∧ Below w.heap.size w w' := by
  have hgd := fun w => stGood_any l w hl
  cases hg : stM l with
  | false =>
    rw [hg] at hgd
    have HG := Lib.hid hgd
    have e : sureB l = false := by rw [sureB, hg]; rfl
    rw [sure_no e, e]
    clear hgd hg e
    go_enter Try.func22, Try.ntmps22
    go_wp2_with fail
    refine (HG.out _).mono ?_
    rintro e w1 ⟨rfl, hb1⟩
    go_wp2_with fail
    go_ret2
    exact ⟨rfl, hb1⟩
  | true =>
    have hn40 := (stM_facts hg).2.1
    have hall := fun w => stAll_nil l hg w
    rw [allC_nil hn40] at hall
    have HA := Lib.hid hall
    rw [hg] at hgd
    have HG := Lib.hid hgd
    have HSU := Lib.hid fun w => stSure_any l hg w
    have hsb : sureB l = !(allC l [] == 0) := by rw [sureB, hg]; rfl
    have hsv := sure_yes (l := l)
    have hsn := sure_no (l := l)
    generalize allC l [] = A at *
    by_cases h0 : A = 0
    · have e : sureB l = false := by rw [hsb, h0]; rfl
      have hz : ((A : Int) == 0) = true := by rw [h0]; rfl
      rw [hsn e, e]
      clear hgd hg e h0 hall hsb hsv hsn
      go_enter Try.func22, Try.ntmps22
      go_wp2_with fail
      refine (HG.out _).mono ?_
      rintro e w1 ⟨rfl, hb1⟩
      go_wp2_with fail
      refine (HA.out _).mono ?_
      rintro e w2 ⟨rfl, hb2⟩
      go_wp2_with fail
      go_ret2
      exact ⟨rfl, hb1.trans (hb2.mono hb1.size)⟩
    · have e : sureB l = true := by rw [hsb]; simpa using h0
      have hz : ((A : Int) == 0) = false := by rw [beq_eq_false_iff_ne]; omega
      rw [hsv e, e]
      clear hgd hg e h0 hall hsb hsv hsn
      go_enter Try.func22, Try.ntmps22
      go_wp2_with fail
      refine (HG.out _).mono ?_
      rintro e w1 ⟨rfl, hb1⟩
      go_wp2_with fail
      refine (HA.out _).mono ?_
      rintro e w2 ⟨rfl, hb2⟩
      go_wp2_with fail
      refine (HSU.out _).mono ?_
      rintro e w3 ⟨rfl, hb3⟩
      go_wp2_with fail
      go_ret2
      exact ⟨rfl, (hb1.trans (hb2.mono hb1.size)).trans (hb3.mono (by have := hb1.size; have := hb2.size; omega))⟩
end Go.Proofs.Ytajabfegeeepeaa
