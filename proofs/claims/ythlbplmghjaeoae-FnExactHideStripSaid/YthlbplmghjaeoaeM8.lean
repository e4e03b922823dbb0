/- Strips: the strip of a list of mines in which some cells are hidden. -/
import Derived.Test.YthlbplmghjaeoaeM6
import Derived.Test.YthlbplmghjaeoaeZ1
import Derived.Test.YthlbplmghjaeoaeT9
namespace Go.Proofs.Ythlbplmghjaeoae
open Go.RowKit

/-- Are there a list of mines and cells of it that increase? -/
def hsB (b : List UInt8) (xs : List Int) : Bool := mlM b && risesM (b.length : Int) (-1) xs
def hsV (b : List UInt8) (xs : List Int) : List UInt8 := if hsB b xs = true then hiM b (fun k => hasI xs (k : Int)) else []
theorem hs_no {b : List UInt8} {xs : List Int} (h : hsB b xs = false) : hsV b xs = [] := by rw [hsV, h]; rfl
theorem hs_yes {b : List UInt8} {xs : List Int} (h : hsB b xs = true) : hsV b xs = hiM b (fun k => hasI xs (k : Int)) := by rw [hsV, if_pos h]
def hiK (b : List UInt8) (hid : Nat → Bool) (k : Nat) : List UInt8 := (List.range k).map (hiC b hid)
theorem hiK_snoc (b : List UInt8) (hid : Nat → Bool) (k : Nat) : hiK b hid k ++ [hiC b hid k] = hiK b hid (k + 1) := by simp [hiK, List.range_succ]
theorem hiK_length (b : List UInt8) (hid : Nat → Bool) (k : Nat) : (hiK b hid k).length = k := by simp [hiK]
theorem mlM_facts {b : List UInt8} (h : mlM b = true) : 1 ≤ b.length ∧ b.length ≤ 40 ∧ ∀ c ∈ b, mlB c = true := by
  unfold mlM at h
  simp at h
  exact ⟨h.1, h.2.1, h.2.2⟩

set_option maxRecDepth 100000 in
set_option maxHeartbeats 3200000 in
theorem sHideStrip_any (b : List UInt8) (xs : List Int) (a : Option Addr) (cap : Nat) (w : World) (hb : b.length ≤ 1048576) (hat : At w a (ints xs)) (hx : xs.length ≤ 1048576) :
    Calls Try.prog 20 #[.string ⟨b.toArray⟩, .slice a xs.length cap] w fun e w' => e = .returned (.tuple #[.string ⟨(hsV b xs).toArray⟩, .bool (hsB b xs)]) ∧ Below w.heap.size w w' := by
  have hli := fun w => stList_any b w hb
  have HB : Hid (hsB b xs = (mlM b && risesM (b.length : Int) (-1) xs)) := rfl
  cases h1 : mlM b with
  | false =>
    rw [h1] at hli
    have HL := Lib.hid hli
    have e : hsB b xs = false := by rw [HB.out, h1]; rfl
    rw [hs_no e, e]
    clear hli h1 e
    go_enter Try.func20, Try.ntmps20
    go_wp2_with fail
    refine (HL.out _).mono ?_
    rintro e w1 ⟨rfl, hb1⟩
    go_wp2_with fail
    go_ret2
    exact ⟨rfl, hb1⟩
  | true =>
    rw [h1] at hli
    have HL := Lib.hid hli
    have hri := fun w h => l1Rising_any xs (b.length : Int) ((b.length : Int) - 1) (by omega) a cap w h hx
    cases h2 : risesM (b.length : Int) (-1) xs with
    | false =>
      rw [h2] at hri
      have HR := Lib.hid hri
      have e : hsB b xs = false := by rw [HB.out, h1, h2]; rfl
      rw [hs_no e, e]
      clear hli hri h1 h2 e
      go_enter Try.func20, Try.ntmps20
      go_wp2_with fail
      refine (HL.out _).mono ?_
      rintro e w1 ⟨rfl, hb1⟩
      go_wp2_with fail
      refine (HR.out _ (hat.later rfl hb1)).mono ?_
      rintro e w2 ⟨rfl, rfl⟩
      go_wp2_with fail
      go_ret2
      exact ⟨rfl, hb1⟩
    | true =>
      rw [h2] at hri
      have HR := Lib.hid hri
      have e : hsB b xs = true := by rw [HB.out, h1, h2]; rfl
      rw [hs_yes e, e]
      obtain ⟨hn1, hn40, hml⟩ := mlM_facts h1
      have HML := Lib.hid hml
      have HSM : Hid (hiM b (fun k => hasI xs (k : Int)) = hiK b (fun k => hasI xs (k : Int)) b.length) := rfl
      have hcc : ∀ k, hiC b (fun k => hasI xs (k : Int)) k = if b.getD k 0 == 42 || hasI xs (k : Int) then 63 else digB (nmT b k) := fun k => rfl
      have HCC := Lib.hid hcc
      have hhs := fun (k : Nat) w h => l1Has_any xs (k : Int) a cap w h hx
      have HHS := Lib.hid hhs
      have HNM := Lib.hid fun k w hk => stNumber_any b k w hk hb
      clear hli hri h1 h2 e hml hcc hhs
      generalize (fun (k : Nat) => hasI xs (k : Int)) = hid at *
      go_enter Try.func20, Try.ntmps20
      go_wp2_with fail
      refine (HL.out _).mono ?_
      rintro e w1 ⟨rfl, hb1⟩
      have hat1 : At w1 a (ints xs) := hat.later rfl hb1
      go_wp2_with fail
      refine (HR.out _ hat1).mono ?_
      rintro e w2 ⟨rfl, rfl⟩
      go_wp2_with fail
      have hI : (w1.iter ⟨b.toArray⟩ 0).heap[w1.heap.size]? = some (.stringIter ⟨b.toArray⟩ 0) := World.iter_heap w1 _ _
      have hbi0 : Below w1.heap.size w1 (w1.iter ⟨b.toArray⟩ 0) := (Below.refl _ _).alloc (Nat.le_refl _) _
      have hb2 : Below w.heap.size w (w1.iter ⟨b.toArray⟩ 0) := hb1.trans (hbi0.mono hb1.size)
      have hws := hb1.size
      generalize w1.iter ⟨b.toArray⟩ 0 = w2 at *
      have hatI : ∀ w', Below w1.heap.size w1 w' → At w' a (ints xs) := fun w' h => hat1.later rfl h
      have HATI := Lib.hid hatI
      generalize hII : w1.heap.size = I at *
      clear hatI hat1 hb1 hII HL HR
      go_loopw [6] (fun o wr => ∃ k : Nat, k ≤ b.length ∧ o = .string ⟨(hiK b hid k).toArray⟩ ∧ Hid (wr.heap[I]? = some (.stringIter ⟨b.toArray⟩ k)) ∧ Below I w1 wr ∧ Below w.heap.size w wr) (fun _ wr => b.length - wr.iterPos I)
      case atStart => exact ⟨0, Nat.zero_le _, rfl, hI, hbi0, hb2⟩
      case round =>
        clear hI hbi0 hb2
        obtain ⟨k, hk, rfl, hIr, hbI, hb⟩ := hrel
        have hIlt := block_lt hIr.out
        by_cases hlt : k < b.length
        · have hasc := mlB_ascii (HML.out _ (List.getElem_mem hlt))
          have hnx := fun ty => Lib.run_next_ascii_at (P := Try.prog) wr I ⟨b.toArray⟩ k ty hIr.out (by simpa [ByteArray.size] using hlt) (by simpa using hasc)
          have hpos := Lib.hid (iterPos_at hIr.out)
          have i1 := iterAt_at hIlt ⟨b.toArray⟩ (k + 1)
          have i2 := iterAt_below wr I ⟨b.toArray⟩ (k + 1)
          have hbi : Below w.heap.size w (wr.iterAt I ⟨b.toArray⟩ (k + 1)) := hb.trans (i2.mono hws)
          have hbIi : Below I w1 (wr.iterAt I ⟨b.toArray⟩ (k + 1)) := hbI.trans i2
          have hati := HATI.out _ hbIi
          have hix := fun w => idxStrH b k hlt w
          have hm := mine_int b[k]
          have hc := HCC.out k
          rw [show b.getD k 0 = b[k] by simp [List.getD, hlt]] at hc
          have hsn := Lib.hid (hiK_snoc b hid k)
          have hkl : (hiK b hid k).length ≤ 40 := by rw [hiK_length]; omega
          have hhs := fun w h => HHS.out k w h
          have hnm := fun w => HNM.out k w hlt
          have hnl := nmT_le b k
          have hl1 := fun w => l1Num_any (nmT b k) w (by omega)
          generalize nmT b k = n at *
          generalize hiC b hid k = u at *
          generalize hiK b hid k = S at *
          have HNB := Lib.hid hnm
          have HHB := Lib.hid hhs
          have HLB := Lib.hid hl1
          have hmx : ¬ (9223372036854775807 < S.length + 1) := by omega
          clear hasc hnm hhs hl1 i2 hbI hb
          cases hb42 : (b[k] == 42) with
          | true =>
            rw [hb42] at hm hc
            have HU : Hid (u = 63) := hc
            clear hb42 hc
            go_wp2_with fail
            clear hnx
            generalize wr.iterAt I ⟨b.toArray⟩ (k + 1) = wi at *
            have ip := Lib.hid (iterPos_at i1)
            have I1 := Lib.hid i1
            clear i1
            go_roundw
            case rel => exact ⟨k + 1, by omega, by rw [← hsn.out, HU.out], I1, hbIi, hbi⟩
            case measure => rw [hpos.out, ip.out]; omega
          | false =>
            rw [hb42] at hm hc
            have HH := Lib.hid hc
            clear hb42 hc
            go_upto_region 7 with fail
            clear hnx
            generalize wr.iterAt I ⟨b.toArray⟩ (k + 1) = wi at *
            have I1 := Lib.hid i1
            clear i1
            have hq := HHB.out wi hati
            have hwi := hbi.size
            cases hh : hasI xs (k : Int) with
            | true =>
              rw [hh] at hq HH
              have HU : Hid (u = 63) := HH.out
              have HQ := Lib.hid hq
              clear hh hq
              go_wp2_with fail
              refine HQ.out.mono ?_
              rintro e w6 ⟨rfl, rfl⟩
              go_wp2_with fail
              have ip := Lib.hid (iterPos_at I1.out)
              go_roundw
              case rel => exact ⟨k + 1, by omega, by rw [← hsn.out, HU.out], I1, hbIi, hbi⟩
              case measure => rw [hpos.out, ip.out]; omega
            | false =>
              rw [hh] at hq HH
              have HU : Hid (u = digB n) := HH.out
              have HQ := Lib.hid hq
              clear hh hq
              go_wp2_with fail
              refine HQ.out.mono ?_
              rintro e w6 ⟨rfl, rfl⟩
              go_wp2_with fail
              refine (HNB.out _).mono ?_
              rintro e w7 ⟨rfl, rfl⟩
              go_wp2_with fail
              refine (HLB.out _).mono ?_
              rintro e w8 ⟨rfl, hb8⟩
              have hI8 := (hb8.block _ (block_lt I1.out)).trans I1.out
              have hbI8 := hbIi.trans (hb8.mono (Nat.le_of_lt (block_lt I1.out)))
              go_wp2_with fail
              have ip := Lib.hid (iterPos_at hI8)
              go_roundw
              case rel => exact ⟨k + 1, by omega, by rw [← hsn.out, HU.out], hI8, hbI8, hbi.trans (hb8.mono hwi)⟩
              case measure => rw [hpos.out, ip.out]; omega
        · obtain rfl : k = b.length := by omega
          have hnx := fun ty => Lib.run_next_end_at (P := Try.prog) wr I ⟨b.toArray⟩ b.length ty hIr.out (by simp [ByteArray.size])
          go_wp2_with fail
          go_ret2
          exact ⟨by rw [HSM.out]; rfl, hb⟩
end Go.Proofs.Ythlbplmghjaeoae
