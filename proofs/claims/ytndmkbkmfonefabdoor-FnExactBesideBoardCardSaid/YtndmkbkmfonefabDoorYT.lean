/- Two boards beside each other: the program. -/
import Derived.Test.YtndmkbkmfonefabDoorYS
import Derived.Test.YtndmkbkmfonefabDoorY4
import Derived.Outline
namespace Go.Proofs.YtndmkbkmfonefabDoor
open Go.RowKit

set_option maxRecDepth 100000 in
set_option maxHeartbeats 1600000 in
theorem iBeside_yes (l r : List UInt8) (w : World) (hM : HasMax w) (hl : l.length ≤ 1048576) (hr : r.length ≤ 1048576) (hg1 : boGoodM l = true) (hg2 : boGoodM r = true) (hh : gH l = gH r) (hw8 : gW l + gW r ≤ 8) :
    Calls Tryd.prog 22 #[.string ⟨l.toArray⟩, .string ⟨r.toArray⟩] w fun e w' => e = .returned (.tuple #[.string ⟨(besM l r).toArray⟩, .bool (besOK l r)]) ∧ Below w.heap.size w w' := by
  obtain ⟨b1, b2⟩ := bes_yes hg1 hg2 hh hw8
  have hA := Brd.of hg1
  have hB := Brd.of hg2
  obtain ⟨ra, la, sa⟩ := hA.rows
  obtain ⟨rb, lb, sb⟩ := hB.rows
  obtain ⟨ga1, ga2, ga3⟩ := hA.grid
  obtain ⟨gb1, gb2, gb3⟩ := hB.grid
  have qa := readBoard_any l w hM hl
  have qb := fun w' h => readBoard_any r w' h hr
  rw [ga2, gb2] at hh
  rw [ga1, gb1] at hw8
  rw [ga1, ga2, ga3, hg1] at qa
  rw [gb1, gb2, gb3, hg2] at qb
  rw [ra, rb] at b2
  rw [← hh] at b2 qb lb sb hB
  clear ra rb ga1 ga2 ga3 gb1 gb2 gb3 hg1 hg2 hh
  generalize headLen (splitB 47 l) = Wa at *
  generalize (splitB 47 l).length = H at *
  generalize headLen (splitB 47 r) = Wb at *
  generalize cellsM l = ca at *
  generalize cellsM r = cb at *
  have hna := hA.len
  have hnb := hB.len
  have ha64 := hA.n64
  have hb64 := hB.n64
  have hWa : 1 ≤ Wa ∧ Wa ≤ 8 := ⟨hA.w1, hA.w8⟩
  have hWb : 1 ≤ Wb ∧ Wb ≤ 8 := ⟨hB.w1, hB.w8⟩
  have hH1 := hA.h1
  have hH8 := hA.h8
  have B1 := Lib.hid b1
  have B2 := Lib.hid b2
  have hRl : (besR (rowsM ca Wa H) (rowsM cb Wb H)).length = H := by simp [besR]
  have hRg : ∀ k (h : k < (besR (rowsM ca Wa H) (rowsM cb Wb H)).length), (besR (rowsM ca Wa H) (rowsM cb Wb H))[k] = rowM ca Wa k ++ rowM cb Wb k := by
    intro k h
    simp only [besR, List.getElem_zipWith, rowsM_get]
  have hRp : ∀ x ∈ besR (rowsM ca Wa H) (rowsM cb Wb H), x.length ≤ Wa + Wb := fun x hx => Nat.le_of_eq ((besR_mem la lb sa sb).1 x hx)
  generalize besR (rowsM ca Wa H) (rowsM cb Wb H) = R at *
  have hJl : (Lib.join R [47]).length ≤ 72 := by
    have h3 := lens_le (Wa + Wb) R hRp
    have h4 : R.length * (Wa + Wb) ≤ 8 * 8 := Nat.mul_le_mul (by omega) hw8
    cases R with
    | nil => simp [Lib.join_nil]
    | cons x q =>
      rw [Lib.join_length]
      simp at h3 h4 hRl ⊢
      omega
  have hs1 : sizeOK (Wa + Wb) H = true := by simp [sizeOK]; omega
  have hz := isSize_any (Wa + Wb) H
  rw [hs1] at hz
  have hcs : ((Wa + Wb : Nat) : Int) = (Wa : Int) + (Wb : Int) := by simp
  rw [hcs] at hz
  have HNA := Lib.hid hna
  have HNB := Lib.hid hnb
  have HWA := Lib.hid hWa
  have HWB := Lib.hid hWb
  have HG := Lib.hid hRg
  obtain ⟨wa1, wa8⟩ := hWa
  obtain ⟨wb1, wb8⟩ := hWb
  clear b1 b2 hA hB la sa lb sb hna hnb hRg hcs hs1 hRp
  have hd : ((H : Int) != (H : Int)) = false := by simp
  go_enter Tryd.func22, Tryd.ntmps22
  go_wp2_with fail
  refine qa.mono ?_
  rintro e w1 ⟨a, cap, rfl, hown, hb⟩
  go_wp2_with fail
  have hb' : Below w.heap.size w (w1.alloc (.cells #[.int .i64 Wa, .int .i64 H, .slice a ca.length cap, .bool false] 50)) := hb.alloc hb.size _
  have hG1 : (w1.alloc (.cells #[.int .i64 Wa, .int .i64 H, .slice a ca.length cap, .bool false] 50)).heap[w1.heap.size]? = some (.cells #[.int .i64 Wa, .int .i64 H, .slice a ca.length cap, .bool false] 50 (0, 0)) := heap_alloc_new w1 _
  have hs1 : (w1.alloc (.cells #[.int .i64 Wa, .int .i64 H, .slice a ca.length cap, .bool false] 50)).heap.size = w1.heap.size + 1 := by simp
  have hown' : Owns (w1.alloc (.cells #[.int .i64 Wa, .int .i64 H, .slice a ca.length cap, .bool false] 50)) w.heap.size 5 (.slice a ca.length cap) (byts ca) := hown.later ((Below.refl _ _).alloc (Nat.le_refl _) _)
  have hn1 := hb.size
  generalize w1.heap.size = n1 at *
  generalize w1.alloc (.cells #[.int .i64 Wa, .int .i64 H, .slice a ca.length cap, .bool false] 50) = w1' at *
  refine (qb _ (hM.later hb')).mono ?_
  rintro e w2 ⟨a2, cap2, rfl, hown2, hb2⟩
  go_upto_region 3 with fail
  have hn2 := hb2.size
  have hGa := (((Below.refl w2.heap.size w2).alloc (Nat.le_refl _) (.cells #[.int .i64 Wb, .int .i64 H, .slice a2 cb.length cap2, .bool false] 50)).block n1 (by omega)).trans ((hb2.block n1 (by omega)).trans hG1)
  have hGb : (w2.alloc (.cells #[.int .i64 Wb, .int .i64 H, .slice a2 cb.length cap2, .bool false] 50)).heap[w2.heap.size]? = some (.cells #[.int .i64 Wb, .int .i64 H, .slice a2 cb.length cap2, .bool false] 50 (0, 0)) := heap_alloc_new w2 _
  have hb2' : Below w1'.heap.size w1' (w2.alloc (.cells #[.int .i64 Wb, .int .i64 H, .slice a2 cb.length cap2, .bool false] 50)) := hb2.alloc hb2.size _
  have hatb : At (w2.alloc (.cells #[.int .i64 Wb, .int .i64 H, .slice a2 cb.length cap2, .bool false] 50)) a2 (byts cb) := hown2.at.later rfl ((Below.refl _ _).alloc (Nat.le_refl _) _)
  have hata : At (w2.alloc (.cells #[.int .i64 Wb, .int .i64 H, .slice a2 cb.length cap2, .bool false] 50)) a (byts ca) := hown'.at.later rfl hb2'
  have hs2 : (w2.alloc (.cells #[.int .i64 Wb, .int .i64 H, .slice a2 cb.length cap2, .bool false] 50)).heap.size = w2.heap.size + 1 := by simp
  generalize w2.heap.size = n2 at *
  generalize w2.alloc (.cells #[.int .i64 Wb, .int .i64 H, .slice a2 cb.length cap2, .bool false] 50) = w3 at *
  have hb3 : Below w.heap.size w w3 := hb'.trans (hb2'.mono (by omega))
  have hf0 := cell_of_block hGa 0
  have hf1 := cell_of_block hGa 1
  have hk0 := cell_of_block hGb 0
  have hk1 := cell_of_block hGb 1
  simp at hf0 hf1 hk0 hk1
  have HGA := Lib.hid hGa
  have HGB := Lib.hid hGb
  clear hGa hGb hG1
  have hcpa := Owns.cap hown'
  have hcpb := Owns.cap hown2
  clear hown hown' hown2 hb hb' hb2 hb2' qa qb
  go_wp2_with fail
  refine (hz _).mono ?_
  rintro e w3' ⟨rfl, rfl⟩
  go_wp2_with fail
  have HA := Lib.hid hata
  have hcapA := hcpa
  have hcapB := hcpb
  have HB := Lib.hid hatb
  clear hata hatb hf0 hf1 hk0 hk1
  go_loopw [10, 48] (fun v i wr => ∃ k : Nat, k ≤ H ∧ i = .int .i64 k ∧ Owns wr (n2 + 1) 9 v (txts (R.take k)) ∧ Below (n2 + 1) w3 wr) (fun _ i _ => H - (intOf i).toNat)
  case atStart => exact ⟨0, Nat.zero_le _, rfl, Owns.nil _ _ _, Below.refl _ _⟩
  case round =>
    obtain ⟨k, hk, rfl, hown, hbr⟩ := hrel
    have hcell : ∀ w5 : World, Below (n2 + 1) w3 w5 → w5.cell? ⟨n1, 0, none⟩ = some (.int .i64 Wa) ∧ w5.cell? ⟨n1, 1, none⟩ = some (.int .i64 H) ∧ w5.cell? ⟨n1, 2, none⟩ = some (.slice a ca.length cap) ∧ w5.cell? ⟨n1, 3, none⟩ = some (.bool false) ∧ w5.cell? ⟨n2, 0, none⟩ = some (.int .i64 Wb) ∧ w5.cell? ⟨n2, 1, none⟩ = some (.int .i64 H) ∧ w5.cell? ⟨n2, 2, none⟩ = some (.slice a2 cb.length cap2) ∧ w5.cell? ⟨n2, 3, none⟩ = some (.bool false) := by
      intro w5 h
      have hA5 := (h.block _ (by omega)).trans HGA.out
      have hB5 := (h.block _ (by omega)).trans HGB.out
      have q0 := cell_of_block hA5 0
      have q1 := cell_of_block hA5 1
      have q2 := cell_of_block hA5 2
      have q3 := cell_of_block hA5 3
      have p0 := cell_of_block hB5 0
      have p1 := cell_of_block hB5 1
      have p2 := cell_of_block hB5 2
      have p3 := cell_of_block hB5 3
      simp at q0 q1 q2 q3 p0 p1 p2 p3
      exact ⟨q0, q1, q2, q3, p0, p1, p2, p3⟩
    obtain ⟨q0, q1, q2, q3, p0, p1, p2, p3⟩ := hcell wr hbr
    have HCL := Lib.hid hcell
    clear hcell
    by_cases hlt : k < H
    · have hlen : (R.take k).length = k := by simp; omega
      have hnext : txts (R.take k) ++ [.string ⟨(rowM ca Wa k ++ rowM cb Wb k).toArray⟩] = txts (R.take (k + 1)) := by
        rw [txts_snoc, List.take_add_one, List.getElem?_eq_getElem (by omega), HG.out k (by omega)]
        rfl
      have hsr : n2 + 1 ≤ wr.heap.size := by have := hbr.size; omega
      have hatA : At wr.drew a (byts ca) := (HA.out.below HA.out (by omega) hbr).drew
      have hatB : At wr.drew a2 (byts cb) := (HB.out.below HB.out (by omega) hbr).drew
      have hownd : Owns wr.drew (n2 + 1) 9 _ (txts (R.take k)) := hown
      have htl : (txts (R.take k)).length = k := by rw [txts_length, hlen]
      have rl1 : (rowM ca Wa k).length ≤ 8 := Nat.le_trans (List.length_take_le _ _) wa8
      have rl2 : (rowM cb Wb k).length ≤ 8 := Nat.le_trans (List.length_take_le _ _) wb8
      have rl3 : ¬ (9223372036854775807 < (rowM ca Wa k).length + (rowM cb Wb k).length) := by omega
      go_wp2_with fail
      go_region_law (first
        | (have h6 := hb5; go_simp; go_at_call 57; refine (rowText_any Wb H a2 cb cap2 k _ (hatB.later rfl hb5) hcapB HNB.out HWB.out hH8 hlt).mono ?_; rintro e w6 ⟨rfl, hb6⟩)
        | (go_simp; go_at_call 57; refine (rowText_any Wa H a ca cap k _ (by exact hatA) hcapA HNA.out HWA.out hH8 hlt).mono ?_; rintro e w5 ⟨rfl, hb5⟩; obtain ⟨u0, u1, u2, v0, v1, v2⟩ := HCL.out w5 (hbr.trans ((ofDrew hb5).mono hsr)))
        | (have hs5 := hb5.size; have hs6 := hb6.size; have hsz6 : n2 + 1 ≤ w6.heap.size := (by have h1 : wr.heap.size ≤ w5.heap.size := hs5; omega); have hown7 : Owns (w6.alloc (.cells #[.string ⟨(rowM ca Wa k ++ rowM cb Wb k).toArray⟩] 9)) (n2 + 1) 9 _ (txts (R.take k)) := ((hownd.later hb5).later hb6).later ((Below.refl _ _).alloc (Nat.le_refl _) _); have hat7 : At (w6.alloc (.cells #[.string ⟨(rowM ca Wa k ++ rowM cb Wb k).toArray⟩] 9)) (some ⟨w6.heap.size, 0, none⟩) [.string ⟨(rowM ca Wa k ++ rowM cb Wb k).toArray⟩] := (Owns.one w6 (n2 + 1) 9 (.string ⟨(rowM ca Wa k ++ rowM cb Wb k).toArray⟩) hsz6).at; have hsz7 : n2 + 1 ≤ (w6.alloc (.cells #[.string ⟨(rowM ca Wa k ++ rowM cb Wb k).toArray⟩] 9)).heap.size := (by have h2 := ((Below.refl w6.heap.size w6).alloc (Nat.le_refl _) (.cells #[.string ⟨(rowM ca Wa k ++ rowM cb Wb k).toArray⟩] 9)).size; omega); refine step_appA rfl _ _ _ (by rfl) (n2 + 1) _ _ _ elemStr _ (txts (R.take k)) (by rfl) hown7 _ 1 1 [.string ⟨(rowM ca Wa k ++ rowM cb Wb k).toArray⟩] (by rfl) rfl hat7 (by intro u hu; rw [List.mem_singleton.1 hu]; rfl) (by rw [htl]; simp only [List.length_singleton]; omega) (by rw [htl]; simp only [List.length_singleton]; omega) hsz7 ?_; intro v8 w8 hown8 hb8))
      all_goals
        rw [hnext] at hown8
        have hb48 : Below (n2 + 1) w3 w8 := (hbr.trans (((ofDrew hb5).mono hsr).trans ((hb6.mono (by have h1 : wr.heap.size ≤ w5.heap.size := hb5.size; omega)).alloc (by have h1 : wr.heap.size ≤ w5.heap.size := hb5.size; omega) _))).trans hb8
        clear hb5 hb6 hb8 hownd hatA hatB hbr
        go_wp2_with fail
        go_roundw
        case rel => exact ⟨k + 1, by omega, by go_num, hown8, hb48⟩
        case measure => simp [intOf]; omega
    · obtain rfl : k = H := by omega
      clear hlt hk
      have hall : R.take k = R := List.take_of_length_le (by omega)
      rw [hall] at hown
      obtain ⟨a', cap', hv⟩ := hown.shape
      simp only [txts_length] at hv
      subst hv
      obtain ⟨bk, o, he, hblk⟩ := (hown.at).lt (by simp; omega)
      subst he
      have hcp := Owns.cap hown
      have hz1 := hown.at
      have hcells : ∀ (j : Nat) x, (R.map fun l => ByteArray.mk l.toArray)[j]? = some x → wr.cell? ⟨bk, o + j, none⟩ = some (.string x) := by
        intro j x hx
        have hj : j < R.length := by
          rcases Nat.lt_or_ge j R.length with h | h
          · exact h
          · rw [List.getElem?_eq_none (by simpa using h)] at hx; cases hx
        obtain ⟨b2, o2, h1, h2⟩ := txts_at hz1 j hj
        simp only [Option.some.injEq, Addr.mk.injEq, and_true] at h1
        obtain ⟨rfl, rfl⟩ := h1
        rw [h2]
        rw [List.getElem?_map, List.getElem?_eq_getElem hj] at hx
        simp at hx
        rw [hx]
      have hj := Tryd.strings_Join bk o cap' (R.map fun l => ByteArray.mk l.toArray) ⟨#[47]⟩ wr hcells hblk (by simp; omega) (by simpa using hcp)
      have hmm : (R.map fun l => ByteArray.mk l.toArray).map (·.data.toList) = R := by
        rw [List.map_map]
        exact (List.map_congr_left (fun x _ => by simp)).trans (List.map_id _)
      rw [hmm] at hj
      have hj2 := hj (by simp; omega)
      simp only [List.length_map, hRl] at hj2
      go_wp2_with fail
      refine hj2.mono ?_
      rintro e w5 ⟨rfl, hb5⟩
      go_wp2_with fail
      go_ret2
      refine ⟨by rw [B1.out, B2.out]; rfl, ?_⟩
      exact (hb3.trans (hbr.mono (by omega))).trans (hb5.mono (by have := hbr.size; omega))
end Go.Proofs.YtndmkbkmfonefabDoor
