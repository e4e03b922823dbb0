/- Notes: the model's neighbours of a cell with a sign, and a cell that there is. -/
import Derived.Test.YthlbplmghjaeoabDoorC7
import Derived.Outline
namespace Go.Proofs.YthlbplmghjaeoabDoor
open Go.RowKit

theorem inB_in (n : Nat) (c : Int) : inB c 0 ((n : Int) - 1) = inC n c := by
  simp only [inB, inC]
  congr 1
  exact decide_eq_decide.2 (by omega)
theorem l1In_cell (n : Nat) (c : Int) (w : World) : Calls Tryd.prog 66 #[.int .i64 c, .int .i64 0, .int .i64 ((n : Int) - 1)] w fun e w' => e = .returned (.bool (inC n c)) ∧ w = w' := by
  rw [← inB_in]
  exact l1In_any _ _ _ _

set_option maxRecDepth 100000 in
set_option maxHeartbeats 800000 in
theorem ruCell_any (l : List UInt8) (c : Int) (w : World) (hl : l.length ≤ 1048576) :
    Calls Tryd.prog 36 #[.string ⟨l.toArray⟩, .int .i64 c] w fun e w' => e = .returned (.bool (inC (grC noteSign l).length c)) ∧ Below w.heap.size w w' := by
  have h1 := fun w => ruGood_any l w hl
  cases hg : gridM noteSign l with
  | true =>
    rw [hg] at h1
    have hc : grC noteSign l = cellsM l := by rw [grC, if_pos hg]
    have hin := Lib.hid (fun w => l1In_cell (cellsM l).length c w)
    have hcl := cellsM_le l
    rw [hc]
    clear hg hc
    generalize hcc : (cellsM l).length = n at *
    have HCC := Lib.hid hcc
    go_enter Tryd.func36, Tryd.ntmps36
    go_wp2_with fail
    refine (h1 _).mono ?_
    rintro e w1 ⟨rfl, hb⟩
    go_wp2_with fail
    refine (boCells_any l _ hl).mono ?_
    rintro e w2 ⟨rfl, rfl⟩
    go_wp2_with fail
    refine (hin.out _).mono ?_
    rintro e w2 ⟨rfl, rfl⟩
    go_wp2_with fail
    go_ret
    exact ⟨rfl, hb⟩
  | false =>
    rw [hg] at h1
    have HO : Hid (inC (grC noteSign l).length c = false) := by rw [Hid, grC_none hg]; simp [inC]
    clear hg
    go_enter Tryd.func36, Tryd.ntmps36
    go_wp2_with (go_at_call 31; refine (h1 _).mono ?_; rintro e w1 ⟨rfl, hb⟩)
    go_ret
    exact ⟨by rw [HO.out]; rfl, hb⟩

theorem sign_eq (cells : List UInt8) (s : UInt8) (k : Nat) (hk : k < cells.length) : ((cells[k].toNat : Int) == (s.toNat : Int)) = signB cells s k := by
  rw [u8_eq_int]
  have e : cells.getD k 0 = cells[k] := by simp [List.getD, hk]
  rw [signB, e]
  by_cases h : cells[k] = s <;> simp [h]

set_option maxRecDepth 100000 in
set_option maxHeartbeats 1600000 in
theorem ruNear_any (l : List UInt8) (W H : Nat) (cells : List UInt8) (hB : Grd l W H cells) (c : Nat) (hc : c < cells.length) (s : UInt8) (si : Int) (hsi : si = (s.toNat : Int)) (w : World) (hl : l.length ≤ 1048576) :
    Calls Tryd.prog 37 #[.string ⟨l.toArray⟩, .int .i64 c, .int .u8 si] w fun e w' => ∃ a cap, e = .returned (.slice a (nrS cells W c s).length cap) ∧ Owns w' w.heap.size 3 (.slice a (nrS cells W c s).length cap) (nats (nrS cells W c s)) ∧ Below w.heap.size w w' := by
  subst hsi
  obtain ⟨hsz, hcs, hw1, hw8, hh1, hh8, hlen⟩ := hB
  have hn := Grd.n64 ⟨hsz, hcs, hw1, hw8, hh1, hh8, hlen⟩
  have hne := near_eq W H c hw8 hh8 (by omega)
  rw [← hlen] at hne
  have hNlt : ∀ o ∈ nearM W cells.length c, o < cells.length := fun o ho => nearM_lt _ _ _ _ ho
  have hNle := nearM_le W cells.length c
  have hT : Hid (nrS cells W c s = (nearM W cells.length c).filter (signB cells s)) := rfl
  have hz := fun w => boSize_any l w hl
  rw [hsz] at hz
  have hbc := fun w => boCells_any l w hl
  rw [hcs] at hbc
  have HNE := Lib.hid hne
  have HLN := Lib.hid hlen
  clear hne hsz hcs hlen
  go_enter Tryd.func37, Tryd.ntmps37
  go_wp2_with fail
  refine (hz _).mono ?_
  rintro e w1 ⟨rfl, hb⟩
  go_wp2_with fail
  refine (hbc _).mono ?_
  rintro e w2 ⟨rfl, rfl⟩
  have s1 := hb.size
  go_wp2_with fail
  refine (boNear_any W H c _ ⟨hw1, hw8⟩ hh8 (by omega)).mono ?_
  rintro e w2 ⟨a, cap, rfl, hown, hb2⟩
  rw [HNE.out] at hown ⊢
  have hat : At w2 a (nats (nearM W cells.length c)) := hown.at
  have s2 := hb2.size
  have hbw := hb.trans (hb2.mono s1)
  simp only [List.length_map]
  clear HNE hown
  generalize nearM W cells.length c = N at *
  go_wp2_with fail
  go_loopw [10, 25] (fun v i wr => ∃ k : Nat, k ≤ N.length ∧ i = .int .i64 k ∧ Owns wr w2.heap.size 3 v (nats ((N.take k).filter (signB cells s))) ∧ Below w2.heap.size w2 wr) (fun _ i _ => N.length - (intOf i).toNat)
  case atStart => exact ⟨0, Nat.zero_le _, rfl, Owns.nil _ _ _, Below.refl _ _⟩
  case round =>
    obtain ⟨k, hk, rfl, hown, hbr⟩ := hrel
    have sr := hbr.size
    by_cases hlt : k < N.length
    · obtain ⟨b, off, he, hcell⟩ := nats_at (hat.later rfl hbr) k hlt
      subst he
      have HS := Lib.hid (filter_step (p := signB cells s) N k hlt)
      have ho := hNlt _ (List.getElem_mem hlt)
      have hfl : ((N.take k).filter (signB cells s)).length ≤ 64 := Nat.le_trans (List.length_filter_le _ _) (by simp; omega)
      generalize N[k] = o at *
      have hsg := sign_eq cells s o ho
      cases hs : signB cells s o with
      | true =>
        rw [hs] at hsg
        have H63 := Lib.hid hs
        clear hs
        go_wp2_with (at_builtin; refine wpList_app1 rfl _ _ _ rfl _ _ _ _ elemInt _ _ _ _ rfl rfl rfl hown rfl (by simp; omega) sr (by simp; omega) ?_; intro v1 w3 hown1 hb3 hs3)
        rw [nats_snoc] at hown1
        go_roundw
        case rel => exact ⟨k + 1, by omega, by go_num, by rw [HS.out, if_pos H63.out]; exact hown1, hbr.trans hb3⟩
        case measure => simp [intOf]; omega
      | false =>
        rw [hs] at hsg
        have H63 := Lib.hid hs
        clear hs
        go_wp2_with fail
        go_roundw
        case rel => exact ⟨k + 1, by omega, by go_num, by rw [HS.out, if_neg (by rw [H63.out]; decide), List.append_nil]; exact hown, hbr⟩
        case measure => simp [intOf]; omega
    · obtain rfl : k = N.length := by omega
      go_wp2_with fail
      go_ret
      rw [List.take_length, ← hT.out] at hown
      obtain ⟨a', cap', hv⟩ := hown.shape
      simp only [nats_length] at hv
      exact ⟨a', cap', by rw [← hv]; rfl, by rw [← hv]; exact hown.mono hbw.size, hbw.trans (hbr.mono hbw.size)⟩

set_option maxRecDepth 100000 in
set_option maxHeartbeats 800000 in
theorem sUnknownNear_any (l : List UInt8) (c : Int) (w : World) (hl : l.length ≤ 1048576) :
    Calls Tryd.prog 13 #[.string ⟨l.toArray⟩, .int .i64 c] w fun e w' => ∃ a cap, e = .returned (.tuple #[.slice a (unOf l c).length cap, .bool (inC (grC noteSign l).length c)]) ∧ Owns w' w.heap.size 3 (.slice a (unOf l c).length cap) (nats (unOf l c)) ∧ Below w.heap.size w w' := by
  have h1 := fun w => ruCell_any l c w hl
  have hcase : inC (grC noteSign l).length c = false ∨ ∃ k : Nat, c = k ∧ k < (grC noteSign l).length ∧ inC (grC noteSign l).length c = true := by
    by_cases h : 0 ≤ c ∧ c < (grC noteSign l).length
    · exact .inr ⟨c.toNat, by omega, by omega, by simp [inC]; omega⟩
    · exact .inl (by simp [inC]; omega)
  rcases hcase with hb | ⟨k, rfl, hk, hb⟩
  · have HU : Hid (unOf l c = []) := by rw [Hid, unOf, hb]; rfl
    rw [hb] at h1
    have HB := Lib.hid hb
    clear hb
    go_enter Tryd.func13, Tryd.ntmps13
    go_wp2_with (go_at_call 36; refine (h1 _).mono ?_; rintro e w1 ⟨rfl, hb⟩)
    go_ret2
    exact ⟨none, 0, by rw [HU.out, HB.out]; rfl, by rw [HU.out]; exact Owns.nil _ _ _, hb⟩
  · have HU : Hid (unOf l k = nrS (grC noteSign l) (grW noteSign l) k 63) := by rw [Hid, unOf, if_pos hb]; rfl
    rw [hb] at h1
    have hg : gridM noteSign l = true := by
      cases hg : gridM noteSign l with
      | true => rfl
      | false => rw [grC_none hg] at hk; simp at hk
    have HNR := Lib.hid (fun w => ruNear_any l _ _ _ (Grd.of hg) k hk 63 63 rfl w hl)
    have HB := Lib.hid hb
    clear hb hg
    go_enter Tryd.func13, Tryd.ntmps13
    go_wp2_with fail
    refine (h1 _).mono ?_
    rintro e w1 ⟨rfl, hb⟩
    go_wp2_with fail
    refine (HNR.out _).mono ?_
    rintro e w2 ⟨a, cap, rfl, hown, hb2⟩
    go_wp2_with fail
    go_ret2
    exact ⟨a, cap, by rw [HU.out, HB.out]; rfl, by rw [HU.out]; exact hown.mono hb.size, hb.trans (hb2.mono hb.size)⟩
end Go.Proofs.YthlbplmghjaeoabDoor
