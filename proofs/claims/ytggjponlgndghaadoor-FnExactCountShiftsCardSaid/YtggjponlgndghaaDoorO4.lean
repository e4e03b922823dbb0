/- Joined boards by the model: numbers around. -/
import Derived.Test.YtggjponlgndghaaDoorO2
import Derived.Test.YtggjponlgndghaaDoorO3
import Derived.Test.YtggjponlgndghaaDoorGN9
import Derived.Outline
namespace Go.Proofs.YtggjponlgndghaaDoor
open Go.RowKit

/-- The model and the program list the same neighbours around. -/
theorem joN_all : ∀ W, W < 6 → ∀ H, H < 6 → ∀ c, c < (W + 3) * (H + 3) → joN (W + 3) (H + 3) c = nearM (.around (W + 3) (H + 3)) ((W + 3) * (H + 3)) c := by decide +kernel
theorem joN_eq (W H c : Nat) (hW : 3 ≤ W ∧ W ≤ 8) (hH : 3 ≤ H ∧ H ≤ 8) (hc : c < W * H) : joN W H c = nearM (.around W H) (W * H) c :=
  by
  obtain ⟨w, rfl⟩ : ∃ w, W = w + 3 := ⟨W - 3, by omega⟩
  obtain ⟨h, rfl⟩ : ∃ h, H = h + 3 := ⟨H - 3, by omega⟩
  exact joN_all w (by omega) h (by omega) c hc

set_option maxRecDepth 100000 in
set_option maxHeartbeats 1600000 in
theorem joNumbers_any (W H : Nat) (cells : List UInt8) (w : World) (hW : 3 ≤ W ∧ W ≤ 8) (hH : 3 ≤ H ∧ H ≤ 8) (hn : cells.length = W * H) (hsg : ∀ c ∈ cells, c = 46 ∨ c = 42) :
    Calls Tryd.prog 61 #[.string ⟨cells.toArray⟩, .int .i64 W] w fun e w' => ∃ a cap, e = .returned (.slice a cells.length cap) ∧ Owns w' w.heap.size 3 (.slice a cells.length cap) (nats (numsM cells (.around W H))) ∧ Below w.heap.size w w' := by
  have h64 : cells.length ≤ 64 := by rw [hn]; exact Nat.mul_le_mul hW.2 hH.2
  have hq : wrap64 ((cells.length : Int) / (W : Int)) = (H : Int) := by
    have : ((cells.length : Int) / (W : Int)) = (H : Int) := by
      rw [hn]; simp only [Int.natCast_mul]; exact Int.mul_ediv_cancel_left _ (by omega)
    rw [this, IntWalk.wrap64_in _ ⟨by omega, by omega⟩]
  have HNR := Lib.hid (fun (c : Nat) (w : World) (hc : c < cells.length) => joNear_any W H c ⟨by omega, hW.2⟩ ⟨by omega, hH.2⟩ (by omega) w)
  have HJN : Hid (∀ c, c < cells.length → joN W H c = nearM (.around W H) cells.length c) := fun c hc => by rw [hn]; exact joN_eq W H c hW hH (by omega)
  have HN := Lib.hid hn
  have hT : Hid (numsM cells (.around W H) = numsGo cells (.around W H) 0 cells.length) := rfl
  obtain ⟨hw3, hw8⟩ := hW
  clear hn hH
  generalize hV : Geo.around W H = V at *
  clear hV
  go_enter Tryd.func61, Tryd.ntmps61
  go_wp2_with fail
  have hI : (w.iter ⟨cells.toArray⟩ 0).heap[w.heap.size]? = some (.stringIter ⟨cells.toArray⟩ 0) := World.iter_heap w _ _
  have hb2 : Below w.heap.size w (w.iter ⟨cells.toArray⟩ 0) := (Below.refl _ _).alloc (Nat.le_refl _) _
  have hs2 : w.heap.size < (w.iter ⟨cells.toArray⟩ 0).heap.size := by simp [World.iter]
  generalize w.iter ⟨cells.toArray⟩ 0 = w2 at *
  generalize hII : w.heap.size = I at *
  have HII := Lib.hid hII
  clear hII
  go_loopw [5] (fun v wr => ∃ k : Nat, k ≤ cells.length ∧ Hid (wr.heap[I]? = some (.stringIter ⟨cells.toArray⟩ k)) ∧ ∃ acc : List Nat, acc.length = k ∧ Owns wr (I + 1) 3 v (nats acc) ∧ Below I w2 wr ∧ Hid (numsM cells V = acc ++ numsGo cells V k (cells.length - k))) (fun _ wr => cells.length - wr.iterPos I)
  case atStart => exact ⟨0, Nat.zero_le _, hI, [], rfl, Owns.nil _ _ _, Below.refl _ _, by rw [Hid, hT.out]; simp⟩
  case round =>
    obtain ⟨k, hk, hIr, acc, hacc, hown, hb, hR⟩ := hrel
    have hIlt := block_lt hIr.out
    have HA := Lib.hid hacc
    have hacc' : acc.length ≤ k := by omega
    clear hacc
    by_cases hlt : k < cells.length
    · have hasc := sign_ascii (hsg _ (List.getElem_mem hlt))
      have hnx := fun ty => Lib.run_next_ascii_at (P := Tryd.prog) wr I ⟨cells.toArray⟩ k ty hIr.out (by simpa [ByteArray.size] using hlt) (by simpa using hasc)
      have hpos := Lib.hid (iterPos_at hIr.out)
      have i1 := iterAt_at hIlt ⟨cells.toArray⟩ (k + 1)
      have i2 := iterAt_below wr I ⟨cells.toArray⟩ (k + 1)
      have i3 := iterAt_size wr I ⟨cells.toArray⟩ (k + 1)
      have i4 := hown.iter I ⟨cells.toArray⟩ (k + 1) (by omega)
      go_wp2_with fail
      clear hnx
      generalize wr.iterAt I ⟨cells.toArray⟩ (k + 1) = wi at *
      refine (HNR.out k _ hlt).mono ?_
      rintro e w3 ⟨v, rfl, hN3, hb3⟩
      rw [HJN.out k hlt] at hN3
      have s3 := hb3.size
      have i5 := Lib.hid ((hb3.block I (by omega)).trans i1)
      have hNlt : ∀ o ∈ nearM V cells.length k, o < cells.length := fun o ho => nearM_lt _ _ _ _ ho
      have hNle := nearM_le V cells.length k
      have hNT : Hid (numM cells V k = countAt cells (nearM V cells.length k)) := rfl
      obtain ⟨a3, c3, hv3⟩ := hN3.shape
      simp only [nats_length] at hv3
      subst hv3
      have hat3 := hN3.at
      have i6 := i4.later hb3
      clear i1 hN3 i4
      generalize nearM V cells.length k = N at *
      go_wp2_with fail
      go_loop [7, 23] (fun q i => ∃ m : Nat, m ≤ N.length ∧ i = .int .i64 m ∧ ∃ s : Nat, s ≤ m ∧ q = .int .i64 s ∧ Hid (numM cells V k = s + countAt cells (N.drop m))) (fun _ i => N.length - (intOf i).toNat)
      case atStart => exact ⟨0, Nat.zero_le _, rfl, 0, by omega, rfl, by rw [Hid, hNT.out]; simp⟩
      case round =>
        obtain ⟨m, hm, rfl, s, hs, rfl, hRm⟩ := hrel
        by_cases hml : m < N.length
        · obtain ⟨b, off, he, hcell⟩ := nats_at hat3 m hml
          subst he
          have Ht := Lib.hid (List.drop_eq_getElem_cons hml)
          have ho := hNlt _ (List.getElem_mem hml)
          generalize N[m] = o at *
          have hgd : Hid (cells.getD o 0 = cells[o]) := by simp [Hid, List.getD, ho]
          by_cases h42 : cells[o] = 42
          · have hd : ((cells[o].toNat : Int) == 42) = true := by rw [is42]; simp [h42]
            have H42 := Lib.hid h42
            clear h42
            go_wp2_with fail
            go_round
            case rel =>
              first
                | exact ⟨m + 1, by omega, by go_num, s + 1, by omega, by go_num, by rw [Hid, hRm.out, Ht.out, countAt, hgd.out, if_pos H42.out]; omega⟩
                | ((repeat apply Exists.intro); exact ⟨⟨m + 1, by omega, by go_num, s + 1, by omega, by go_num, by rw [Hid, hRm.out, Ht.out, countAt, hgd.out, if_pos H42.out]; omega⟩, rfl⟩)
            case measure => simp [intOf]; omega
          · have hd : ((cells[o].toNat : Int) == 42) = false := by rw [is42]; simp [h42]
            have H42 := Lib.hid h42
            clear h42
            go_wp2_with fail
            go_round
            case rel =>
              first
                | exact ⟨m + 1, by omega, by go_num, s, by omega, rfl, by rw [Hid, hRm.out, Ht.out, countAt, hgd.out, if_neg H42.out]⟩
                | ((repeat apply Exists.intro); exact ⟨⟨m + 1, by omega, by go_num, s, by omega, rfl, by rw [Hid, hRm.out, Ht.out, countAt, hgd.out, if_neg H42.out]⟩, rfl⟩)
            case measure => simp [intOf]; omega
        · obtain rfl : m = N.length := by omega
          have hfin : Hid (s = numM cells V k) := by rw [Hid, hRm.out]; simp [countAt]
          go_wp2_with (at_builtin; refine wpList_app1 rfl _ _ _ rfl _ _ _ _ elemInt _ _ _ _ rfl rfl rfl i6 rfl (by simp; omega) (by omega) (by simp; omega) ?_; intro v1 w4 hown1 hb4 hs4)
          rw [nats_snoc, hfin.out] at hown1
          have i7 := (hb4.block I (by omega)).trans i5.out
          have ip := Lib.hid (iterPos_at i7)
          have I7 := Lib.hid i7
          clear i7
          go_roundw
          case rel =>
            first
              | exact ⟨k + 1, by omega, I7, _, by simp [HA.out], hown1, ((hb.trans i2).trans (hb3.mono (by omega))).trans (hb4.mono (by omega)), by rw [Hid, hR.out, show cells.length - k = (cells.length - (k + 1)) + 1 by omega, numsGo]; simp⟩
              | ((repeat apply Exists.intro); exact ⟨⟨k + 1, by omega, I7, _, by simp [HA.out], hown1, ((hb.trans i2).trans (hb3.mono (by omega))).trans (hb4.mono (by omega)), by rw [Hid, hR.out, show cells.length - k = (cells.length - (k + 1)) + 1 by omega, numsGo]; simp⟩, rfl⟩)
          case measure => rw [hpos.out, ip.out]; omega
    · obtain rfl : k = cells.length := by omega
      have hnx := fun ty => Lib.run_next_end_at (P := Tryd.prog) wr I ⟨cells.toArray⟩ cells.length ty hIr.out (by simp [ByteArray.size])
      have hfin : acc = numsM cells V := by rw [hR.out]; simp [numsGo]
      go_wp2_with fail
      go_ret
      rw [hfin] at hown
      obtain ⟨a', cap', hv⟩ := hown.shape
      simp only [nats_length, numsM_length] at hv
      rw [HII.out]
      exact ⟨a', cap', by rw [← hv]; rfl, by rw [← hv]; exact hown.mono (by omega), hb2.trans hb⟩
end Go.Proofs.YtggjponlgndghaaDoor
