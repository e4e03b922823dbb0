/- Views: whether a board fits, by the program. -/
import Derived.Test.YtndmkbkmfonefadDoorWH
import Derived.Test.YtndmkbkmfonefadDoorW6
import Derived.Outline
namespace Go.Proofs.YtndmkbkmfonefadDoor
open Go.RowKit

theorem u64s_at {w : World} {a : Option Addr} {xs : List Nat} (h : At w a (u64s xs)) (k : Nat) (hk : k < xs.length) : ∃ b off, a = some ⟨b, off, none⟩ ∧ w.cell? ⟨b, off + k, none⟩ = some (.int .u64 (xs[k] : Int)) := by
  obtain ⟨b, off, h1, h2⟩ := h k (by simpa using hk)
  exact ⟨b, off, h1, by rw [h2]; simp [u64s]⟩
theorem numV_pop (cells : List UInt8) (W : Nat) (p : Nat → Bool) (k : Nat) (hh : (hidM cells).length ≤ 14) : pop14 (setM p (hidM cells) &&& nearS cells W k) = numV cells W p k := by
  rw [nearS, nearH, setM_and, pop_setM _ _ hh, numV]
theorem set14 (p : Nat → Bool) (hs : List Nat) (h : hs.length ≤ 14) : setM p hs < 16384 :=
  Nat.lt_of_lt_of_le (setM_lt p _) (Nat.le_trans (Nat.pow_le_pow_right (by decide) h) (by decide))

set_option maxRecDepth 100000 in
set_option maxHeartbeats 800000 in
theorem vnumber_any (W H : Nat) (a : Option Addr) (n c : Nat) (cells : List UInt8) (ah : Option Addr) (nh ch : Nat) (an : Option Addr) (cn : Nat) (p : Nat → Bool) (k : Nat) (w : World)
    (hat : At w an (u64s (nearL cells W))) (hk : k < cells.length) (hh : (hidM cells).length ≤ 14) :
    Calls Tryd.prog 101 #[.agg #[.int .i64 W, .int .i64 H, .slice a n c, .bool false, .slice ah nh ch, .slice an cells.length cn], .int .u64 (setM p (hidM cells) : Nat), .int .i64 k] w fun e w' => e = .returned (.int .i64 (numV cells W p k : Nat)) ∧ Below w.heap.size w w' := by
  have HP := Lib.hid (numV_pop cells W p k hh)
  have h1 := set14 p _ hh
  have h2 : nearS cells W k < 16384 := set14 _ _ hh
  have HA := Lib.hid (u64_and (setM p (hidM cells)) (nearS cells W k) (by omega) (by omega))
  have h3 : setM p (hidM cells) &&& nearS cells W k < 16384 := Nat.lt_of_le_of_lt Nat.and_le_left h1
  obtain ⟨b, off, rfl, hc⟩ := u64s_at hat k (by simpa [nearL] using hk)
  rw [show (nearL cells W)[k]'(by simpa [nearL] using hk) = nearS cells W k by simp [nearL]] at hc
  have hbl := World.block_lt_of_cell? w _ hc
  have hb0 : ∀ o, Below w.heap.size w (w.alloc o) := fun o => (Below.refl _ _).alloc (Nat.le_refl _) _
  have hc' : ∀ o, (w.alloc o).cell? ⟨b, off + k, none⟩ = some (.int .u64 (nearS cells W k : Nat)) := fun o => by rw [cell_new w o b hbl]; exact hc
  generalize nearS cells W k = y at *
  generalize setM p (hidM cells) = x at *
  go_enter Tryd.func101, Tryd.ntmps101
  go_wp2_with fail
  rw [HA.out]
  refine (count_any _ _ h3).mono ?_
  rintro e w2 ⟨rfl, rfl⟩
  go_wp2_with fail
  go_ret
  exact ⟨by rw [HP.out]; rfl, hb0 _⟩

def fitB (cells : List UInt8) (W : Nat) (p : Nat → Bool) (k : Nat) : Bool := !digSign (cells.getD k 0) || (cells.getD k 0 == digB (numV cells W p k))
theorem fits_no {cells : List UInt8} {W : Nat} {p : Nat → Bool} {k : Nat} (hk : k < cells.length) (h : fitB cells W p k = false) : fitsM cells W p = false := by
  cases hf : fitsM cells W p with
  | false => rfl
  | true => rw [← h]; exact (List.all_eq_true.1 hf k (List.mem_range.2 hk)).symm
theorem fits_yes {cells : List UInt8} {W : Nat} {p : Nat → Bool} (h : ∀ k, k < cells.length → fitB cells W p k = true) : fitsM cells W p = true :=
  List.all_eq_true.2 fun k hk => h k (List.mem_range.1 hk)
theorem fit_at {cells : List UInt8} {W : Nat} {p : Nat → Bool} {k : Nat} (hk : k < cells.length) : fitB cells W p k = (!digSign cells[k] || (cells[k] == digB (numV cells W p k))) := by
  simp [fitB, List.getD, hk]

set_option maxRecDepth 100000 in
set_option maxHeartbeats 1600000 in
theorem fits_any (W H : Nat) (a : Option Addr) (c : Nat) (cells : List UInt8) (ah : Option Addr) (nh ch : Nat) (an : Option Addr) (cn : Nat) (p : Nat → Bool) (w : World)
    (hat : At w a (byts cells)) (hatn : At w an (u64s (nearL cells W))) (hh : (hidM cells).length ≤ 14) (hW : W ≤ 8) (hH : H ≤ 8) (hn : cells.length = W * H) (h64 : cells.length ≤ 64) :
    Calls Tryd.prog 89 #[.agg #[.int .i64 W, .int .i64 H, .slice a cells.length c, .bool false, .slice ah nh ch, .slice an cells.length cn], .int .u64 (setM p (hidM cells) : Nat)] w fun e w' => e = .returned (.bool (fitsM cells W p)) ∧ Below w.heap.size w w' := by
  have hnum := fun k w h hk => vnumber_any W H a cells.length c cells ah nh ch an cn p k w h hk hh
  have hnl := fun k hk => numV_le (cells := cells) (W := W) (H := H) p (k := k) hW hH hn hk
  have HN := Lib.hid hn
  have h14 := Lib.hid hh
  clear hn hh
  go_enter Tryd.func89, Tryd.ntmps89
  go_wp2_with fail
  have hb0 : Below w.heap.size w (w.alloc (.cells #[.int .i64 W, .int .i64 H, .slice a cells.length c, .bool false, .slice ah nh ch, .slice an cells.length cn] 68)) := (Below.refl _ _).alloc (Nat.le_refl _) _
  have hV0 : (w.alloc (.cells #[.int .i64 W, .int .i64 H, .slice a cells.length c, .bool false, .slice ah nh ch, .slice an cells.length cn] 68)).heap[w.heap.size]? = some (.cells #[.int .i64 W, .int .i64 H, .slice a cells.length c, .bool false, .slice ah nh ch, .slice an cells.length cn] 68 (0, 0)) := heap_alloc_new w _
  have hs0 : w.heap.size < (w.alloc (.cells #[.int .i64 W, .int .i64 H, .slice a cells.length c, .bool false, .slice ah nh ch, .slice an cells.length cn] 68)).heap.size := by simp
  have hat0 := hat.later rfl hb0
  have hatn0 := hatn.later rfl hb0
  generalize w.alloc (.cells #[.int .i64 W, .int .i64 H, .slice a cells.length c, .bool false, .slice ah nh ch, .slice an cells.length cn] 68) = w0 at *
  generalize setM p (hidM cells) = x at *
  clear hat hatn
  go_loopw [11] (fun i wr => ∃ k : Nat, k ≤ cells.length ∧ i = .int .i64 k ∧ Hid (∀ j, j < k → fitB cells W p j = true) ∧ Below w0.heap.size w0 wr) (fun i _ => cells.length - (intOf i).toNat)
  case atStart => exact ⟨0, Nat.zero_le _, rfl, fun j hj => absurd hj (by omega), Below.refl _ _⟩
  case round =>
    obtain ⟨k, hk, rfl, hall, hbr⟩ := hrel
    have hsr := hbr.size
    have hVr := (hbr.block w.heap.size hs0).trans hV0
    have hf0 := cell_of_block hVr 0
    have hf1 := cell_of_block hVr 1
    have hf2 := cell_of_block hVr 2
    have hf3 := cell_of_block hVr 3
    have hf4 := cell_of_block hVr 4
    have hf5 := cell_of_block hVr 5
    simp at hf0 hf1 hf2 hf3 hf4 hf5
    have HV0 := Lib.hid hV0
    clear hVr hV0
    by_cases hlt : k < cells.length
    · have HF := Lib.hid (fit_at (W := W) (p := p) hlt)
      obtain ⟨b, off, rfl, hcx⟩ := byts_at (hat0.below hat0 (Nat.le_refl _) hbr) k hlt
      have hop := fun w => isOpenSign_any cells[k] w
      have hnm := fun w h => hnum k w h hlt
      have h8 := hnl k hlt
      have hatr : At wr an (u64s (nearL cells W)) := hatn0.below hatn0 (Nat.le_refl _) hbr
      have q : ((cells[k].toNat : Int) == ((digB (numV cells W p k)).toNat : Int)) = (cells[k] == digB (numV cells W p k)) := u8_eq_int cells[k] (digB (numV cells W p k))
      cases ho : digSign cells[k] with
      | true =>
        rw [ho] at hop HF
        generalize numV cells W p k = m at *
        have HO := Lib.hid hop
        have HN2 := Lib.hid hnm
        clear hop hnm ho hnum hnl
        have HQ := Lib.hid q
        clear q
        go_wp2_with fail
        refine (HO.out _).mono ?_
        rintro e w3 ⟨rfl, rfl⟩
        go_wp2_with fail
        refine (HN2.out _ hatr).mono ?_
        rintro e w4 ⟨rfl, hb4⟩
        go_wp2_with fail
        refine (digit_any _ _ (by omega)).mono ?_
        rintro e w5 ⟨rfl, rfl⟩
        cases he : (cells[k] == digB m) with
        | true =>
          have hd : ((cells[k].toNat : Int) != ((digB m).toNat : Int)) = false := by have := HQ.out; rw [he] at this; rw [bne, this]; rfl
          have HE := Lib.hid he
          clear he
          go_wp2_with fail
          go_roundw
          case rel => exact ⟨k + 1, by omega, by go_num, fun j hj => (Nat.lt_succ_iff_lt_or_eq.1 hj).elim (hall.out j) (fun h => by rw [h, HF.out, HE.out]; rfl), hbr.trans (hb4.mono hsr)⟩
          case measure => simp [intOf]; omega
        | false =>
          have hd : ((cells[k].toNat : Int) != ((digB m).toNat : Int)) = true := by have := HQ.out; rw [he] at this; rw [bne, this]; rfl
          have HE := Lib.hid he
          clear he
          go_wp2_with fail
          go_ret
          exact ⟨by rw [fits_no hlt (by rw [HF.out, HE.out]; rfl)]; rfl, (hb0.trans (hbr.mono (by omega))).trans (hb4.mono (by omega))⟩
      | false =>
        rw [ho] at hop HF
        have HO := Lib.hid hop
        clear hop hnm ho hnum hnl
        go_wp2_with fail
        refine (HO.out _).mono ?_
        rintro e w3 ⟨rfl, rfl⟩
        go_wp2_with fail
        go_roundw
        case rel => exact ⟨k + 1, by omega, by go_num, fun j hj => (Nat.lt_succ_iff_lt_or_eq.1 hj).elim (hall.out j) (fun h => by rw [h, HF.out]; rfl), hbr⟩
        case measure => simp [intOf]; omega
    · obtain rfl : k = cells.length := by omega
      go_wp2_with fail
      go_ret
      exact ⟨by rw [fits_yes hall.out]; rfl, hb0.trans (hbr.mono (by omega))⟩
end Go.Proofs.YtndmkbkmfonefadDoor
