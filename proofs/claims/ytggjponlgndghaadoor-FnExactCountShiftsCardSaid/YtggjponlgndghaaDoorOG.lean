/- Joined boards: boards shifted, by the model. -/
import Derived.Test.YtggjponlgndghaaDoorOF
import Derived.Test.YtggjponlgndghaaDoorO5
import Derived.Test.YtggjponlgndghaaDoorO4
import Derived.BigQuiet
namespace Go.Proofs.YtggjponlgndghaaDoor
open Go.RowKit

/-- Where the sign of a cell of the shifted board was. -/
def shI (W H r d i : Nat) : Nat := ((i / W + H - d) % H) * W + (i % W + W - r) % W
def shsM (W H r d : Nat) (cells : List UInt8) : List UInt8 := (List.range cells.length).map fun i => cells.getD (shI W H r d i) 0
theorem shsM_length (W H r d : Nat) (cells : List UInt8) : (shsM W H r d cells).length = cells.length := by simp [shsM]
def shsGo (W H r d : Nat) (cells : List UInt8) (k : Nat) : List UInt8 := (List.range k).map fun i => cells.getD (shI W H r d i) 0
theorem shsGo_succ (W H r d : Nat) (cells : List UInt8) (k : Nat) : shsGo W H r d cells (k + 1) = shsGo W H r d cells k ++ [cells.getD (shI W H r d k) 0] := by
  simp [shsGo, List.range_succ]
theorem shsGo_len (W H r d : Nat) (cells : List UInt8) (k : Nat) : (shsGo W H r d cells k).length = k := by simp [shsGo]
theorem mod_int (y d H : Nat) (hd : d ≤ y + H) : (((y : Int) - (d : Int)) % (H : Int)) = (((y + H - d) % H : Nat) : Int) := by
  rw [Int.natCast_emod, show ((y + H - d : Nat) : Int) = ((y : Int) - (d : Int)) + (H : Int) by omega, Int.add_emod_right]
theorem shI_lt {W H r d i : Nat} (hW : 1 ≤ W) (hH : 1 ≤ H) : shI W H r d i < W * H := by
  unfold shI
  have h1 : (i / W + H - d) % H < H := Nat.mod_lt _ hH
  have h2 : (i % W + W - r) % W < W := Nat.mod_lt _ hW
  have h3 : ((i / W + H - d) % H + 1) * W ≤ H * W := Nat.mul_le_mul_right W h1
  rw [Nat.succ_mul] at h3
  rw [Nat.mul_comm W H]
  omega

set_option maxRecDepth 100000 in
set_option maxHeartbeats 1600000 in
theorem joShift_any (l : List UInt8) (r d : Nat) (w : World) (hl : l.length ≤ 1048576) (hj : joB l = true) (hr : r < gW l) (hd : d < gH l) :
    Calls Tryd.prog 48 #[.string ⟨l.toArray⟩, .int .i64 r, .int .i64 d] w fun e w' => e = .returned (.string ⟨(textM (shsM (gW l) (gH l) r d (gCells l)) (gW l) (gH l)).toArray⟩) ∧ Below w.heap.size w w' := by
  have hB := Brd.g (joB_good hj)
  have HS := Lib.hid (fun w => boSize_any l w hl)
  have HC := Lib.hid (fun w => boCells_any l w hl)
  rw [hB.size] at HS
  rw [hB.cs] at HC
  have h64 := hB.n64
  have hW1 := hB.w1
  have hW8 := hB.w8
  have hH1 := hB.h1
  have hH8 := hB.h8
  have hn := hB.len
  have hsg := hB.sign
  clear hj hB
  generalize gW l = W at *
  generalize gH l = H at *
  generalize gCells l = cells at *
  have HBT : Hid (brGo W 0 (shsM W H r d cells) = textM (shsM W H r d cells) W H) := brGo_text W H hW1 _ (by rw [shsM_length, hn])
  have HBR := Lib.hid (fun w => boRows_any (shsM W H r d cells) W w (by rw [shsM_length]; exact h64) hW1 (by omega))
  rw [HBT.out] at HBR
  have HEND : Hid (shsGo W H r d cells cells.length = shsM W H r d cells) := rfl
  have HSL := Lib.hid (fun k => shsGo_len W H r d cells k)
  have HSI : Hid (∀ k, shI W H r d k < cells.length) := fun k => by rw [hn]; exact shI_lt hW1 hH1
  have HNX := Lib.hid (fun k => shsGo_succ W H r d cells k)
  have HP : Hid (∀ k, k < cells.length → k / W < H ∧ k % W < W) := fun k hk => ⟨by rw [hn, Nat.mul_comm] at hk; exact Nat.div_lt_of_lt_mul (by rwa [Nat.mul_comm] at hk), Nat.mod_lt _ hW1⟩
  have HI : Hid (∀ k, shI W H r d k = ((k / W + H - d) % H) * W + (k % W + W - r) % W) := fun _ => rfl
  clear hn
  go_enter Tryd.func48, Tryd.ntmps48
  go_wp2_with fail
  refine (HS.out _).mono ?_
  rintro e w1 ⟨rfl, hb1⟩
  go_wp2_with fail
  refine (HC.out _).mono ?_
  rintro e w1' ⟨rfl, rfl⟩
  go_wp2_with fail
  have hI : (w1.iter ⟨cells.toArray⟩ 0).heap[w1.heap.size]? = some (.stringIter ⟨cells.toArray⟩ 0) := World.iter_heap w1 _ _
  have hb2 : Below w1.heap.size w1 (w1.iter ⟨cells.toArray⟩ 0) := (Below.refl _ _).alloc (Nat.le_refl _) _
  have hs2 : w1.heap.size < (w1.iter ⟨cells.toArray⟩ 0).heap.size := by simp [World.iter]
  have hs1 := hb1.size
  generalize w1.iter ⟨cells.toArray⟩ 0 = w2 at *
  generalize hII : w1.heap.size = I at *
  have HII := Lib.hid hII
  clear hII
  go_loopw [10] (fun v wr => ∃ k : Nat, k ≤ cells.length ∧ Hid (wr.heap[I]? = some (.stringIter ⟨cells.toArray⟩ k)) ∧ v = .string ⟨(shsGo W H r d cells k).toArray⟩ ∧ Below I w2 wr) (fun _ wr => cells.length - wr.iterPos I)
  case atStart => exact ⟨0, Nat.zero_le _, hI, rfl, Below.refl _ _⟩
  case round =>
    obtain ⟨k, hk, hIr, rfl, hb⟩ := hrel
    have hIlt := block_lt hIr.out
    have hgl := HSL.out k
    by_cases hlt : k < cells.length
    · have hasc := sign_ascii (hsg _ (List.getElem_mem hlt))
      have hnx := fun ty => Lib.run_next_ascii_at (P := Tryd.prog) wr I ⟨cells.toArray⟩ k ty hIr.out (by simpa [ByteArray.size] using hlt) (by simpa using hasc)
      have hpos := Lib.hid (iterPos_at hIr.out)
      have i1 := iterAt_at hIlt ⟨cells.toArray⟩ (k + 1)
      have i2 := iterAt_below wr I ⟨cells.toArray⟩ (k + 1)
      have i3 := iterAt_size wr I ⟨cells.toArray⟩ (k + 1)
      have t1 : (k : Int).tmod (W : Int) = ((k % W : Nat) : Int) := by rw [Int.ofNat_tmod]
      have t2 : (k : Int).tdiv (W : Int) = ((k / W : Nat) : Int) := by rw [Int.ofNat_tdiv]
      obtain ⟨hy, hx⟩ := HP.out k hlt
      have hIk := HI.out k
      have hJlt := HSI.out k
      have HNk := Lib.hid (HNX.out k)
      generalize shI W H r d k = jj at *
      generalize k / W = y at *
      generalize k % W = x at *
      have hm1 := mod_int y d H (by omega)
      have hm2 := mod_int x r W (by omega)
      have hp1 : (y + H - d) % H < H := Nat.mod_lt _ (by omega)
      have hp2 : (x + W - r) % W < W := Nat.mod_lt _ (by omega)
      have HM1 := Lib.hid (fun w => joMod_any ((y : Int) - (d : Int)) H w (by omega) (by omega))
      have HM2 := Lib.hid (fun w => joMod_any ((x : Int) - (r : Int)) W w (by omega) (by omega))
      rw [hm1] at HM1
      rw [hm2] at HM2
      clear hm1 hm2
      generalize (y + H - d) % H = p at *
      generalize (x + W - r) % W = q at *
      have e1 : Hid ((cells.drop jj).take 1 = [cells.getD jj 0]) := by
        rw [Hid, List.drop_eq_getElem_cons hJlt, List.take_succ_cons, List.take_zero]; simp [List.getD, hJlt]
      have z : ((W : Int) == 0) = false := by simp; omega
      have hWz : ¬ W = 0 := by omega
      have r3 : IntKind.i64.wrap (y : Int) = (y : Int) := by rw [IntKind.wrap_i64]; omega
      have r4 : IntKind.i64.wrap (x : Int) = (x : Int) := by rw [IntKind.wrap_i64]; omega
      obtain ⟨yd, hyd⟩ : ∃ yd : Int, (y : Int) - (d : Int) = yd := ⟨_, rfl⟩
      obtain ⟨xr, hxr⟩ : ∃ xr : Int, (x : Int) - (r : Int) = xr := ⟨_, rfl⟩
      have r5 : IntKind.i64.wrap yd = yd := by rw [IntKind.wrap_i64]; omega
      have r6 : IntKind.i64.wrap xr = xr := by rw [IntKind.wrap_i64]; omega
      rw [hyd] at HM1
      rw [hxr] at HM2
      have HM1 := Lib.hid (fun w => (HM1.out w).mono fun e w' h => (show e = .returned (.int .i64 (p : Int)) ∧ w' = w from ⟨h.1, h.2.symm⟩))
      have HM2 := Lib.hid (fun w => (HM2.out w).mono fun e w' h => (show e = .returned (.int .i64 (q : Int)) ∧ w' = w from ⟨h.1, h.2.symm⟩))
      have r9 : IntKind.i64.wrap ((p * W : Nat) : Int) = ((p * W : Nat) : Int) := by rw [IntKind.wrap_i64]; omega
      have hpW : p * W ≤ 64 := Nat.le_trans (Nat.mul_le_mul (Nat.le_of_lt (Nat.lt_of_lt_of_le hp1 hH8)) hW8) (by decide)
      have r7 : IntKind.i64.wrap ((p : Int) * (W : Int)) = ((p * W : Nat) : Int) := by rw [← Int.natCast_mul, IntKind.wrap_i64]; omega
      have r8 : IntKind.i64.wrap (((p * W : Nat) : Int) + (q : Int)) = (jj : Int) := by rw [IntKind.wrap_i64]; omega
      go_wp2_with fail
      clear hnx
      go_quiet (first | (go_at_call 57; with_reducible refine (?_ : Calls Tryd.prog _ #[.int .i64 yd, .int .i64 H] _ _); exact Calls.quiet_of_same (HM1.out _)) | (go_at_call 57; exact Calls.quiet_of_same (HM2.out _)))
      rw [show ((p : Int) * (W : Int) + (q : Int)) = (jj : Int) by rw [hIk, Int.natCast_add, Int.natCast_mul]]
      generalize hwd : World.drewN _ _ = wd
      have i1 : wd.heap[I]? = some (.stringIter ⟨cells.toArray⟩ (k + 1)) := by rw [← hwd]; exact i1
      have i2 : Below I wr wd := by rw [← hwd]; exact below_drewN i2 _
      clear hwd t1 t2 r3 r4 r5 r6 r7 r8 r9 z hWz hyd hxr hIk i3
      have IP := Lib.hid (iterPos_at i1)
      have I1 := Lib.hid i1
      clear i1
      have hgl2 : (shsGo W H r d cells k).length ≤ 64 := by omega
      go_wp2_with fail
      go_roundw
      case rel => exact ⟨k + 1, by omega, I1, by rw [HNk.out, ← e1.out], hb.trans i2⟩
      case measure => rw [hpos.out, IP.out]; omega
    · obtain rfl : k = cells.length := by omega
      have hnx := fun ty => Lib.run_next_end_at (P := Tryd.prog) wr I ⟨cells.toArray⟩ cells.length ty hIr.out (by simp [ByteArray.size])
      rw [HEND.out]
      go_wp2_with fail
      refine (HBR.out _).mono ?_
      rintro e w3 ⟨rfl, rfl⟩
      go_wp2_with fail
      go_ret
      exact ⟨rfl, hb1.trans ((hb2.trans hb).mono (by rw [HII.out] at *; omega))⟩
end Go.Proofs.YtggjponlgndghaaDoor
