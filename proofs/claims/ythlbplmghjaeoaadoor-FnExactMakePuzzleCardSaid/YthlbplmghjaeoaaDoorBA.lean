/- Puzzles that are made: the numbers that are drawn, the clues; what the model draws. -/
import Derived.Test.YthlbplmghjaeoaaDoorAF
import Derived.Test.YthlbplmghjaeoaaDoorAA
import Derived.Test.YthlbplmghjaeoaaDoorAC
namespace Go.Proofs.YthlbplmghjaeoaaDoor
open Go.RowKit

/-- The next number; the clue that is drawn for a board, and the number behind it; so many clues. -/
def nxN (z : Nat) : Nat := (149 * z + 2719) % 10007
def kdN (z : Nat) : Nat := nxN z % 6
def twN (z : Nat) : Bool := (((kdN z : Nat) : Int) != 1) && (((kdN z : Nat) : Int) != 5)
def zzN (z : Nat) : Nat := if twN z = true then nxN (nxN z) else nxN z
def plN (W H z : Nat) : Nat := if twN z = true then (if kdN z = 3 then nxN (nxN z) % H else if kdN z = 4 then nxN (nxN z) % W else nxN (nxN z) % (W * H)) else 0
def mkC (W H : Nat) (u : List UInt8) (z : Nat) : Clu := clOf W u (kdN z : Nat) (plN W H z : Nat)
def mkL (W H : Nat) (u : List UInt8) : Nat → Nat → List Clu
  | 0, _ => []
  | n + 1, z => mkC W H u z :: mkL W H u n (zzN z)
/-- The number behind so many clues. -/
def zzK : Nat → Nat → Nat
  | 0, z => z
  | n + 1, z => zzK n (zzN z)
theorem nxN_lt (z : Nat) : nxN z < 10007 := Nat.mod_lt _ (by decide)
theorem kdN_lt (z : Nat) : kdN z < 6 := Nat.mod_lt _ (by decide)
theorem zzN_lt (z : Nat) : zzN z < 10007 := by unfold zzN; split <;> exact nxN_lt _
theorem zzK_lt : ∀ n z : Nat, z < 10007 → zzK n z < 10007
  | 0, _, h => h
  | n + 1, z, _ => zzK_lt n (zzN z) (zzN_lt z)
theorem mkL_len (W H : Nat) (u : List UInt8) : ∀ n z : Nat, (mkL W H u n z).length = n
  | 0, _ => rfl
  | n + 1, z => by rw [mkL, List.length_cons, mkL_len W H u n]
theorem zzK_snoc : ∀ n z : Nat, zzK (n + 1) z = zzN (zzK n z)
  | 0, _ => rfl
  | n + 1, z => zzK_snoc n (zzN z)
theorem mkL_snoc (W H : Nat) (u : List UInt8) : ∀ n z : Nat, mkL W H u (n + 1) z = mkL W H u n z ++ [mkC W H u (zzK n z)]
  | 0, _ => rfl
  | n + 1, z => by rw [mkL, mkL_snoc W H u n (zzN z)]; rfl
/-- What the text, the number of clues and the seed make. -/
def mpB (l : List UInt8) (n s : Int) : Bool := (boGoodM l && hsB (gW l) (gH l)) && (inB n 0 8 && inB s 0 9999)
def mpC (l : List UInt8) (n s : Int) : List Clu := if mpB l n s = true then mkL (gW l) (gH l) (gCells l) n.toNat s.toNat else []
def mpX (l : List UInt8) (n s : Int) : Nat := if mpB l n s = true then gW l else 0
def mpY (l : List UInt8) (n s : Int) : Nat := if mpB l n s = true then gH l else 0

set_option maxRecDepth 100000 in
set_option maxHeartbeats 800000 in
theorem pzNext_any (z : Nat) (w : World) (hz : z < 10007) :
    Calls Tryd.prog 39 #[.int .i64 z] w fun e w' => e = .returned (.int .i64 (nxN z : Nat)) ∧ w = w' := by
  have e1 : wrap64 (149 * (z : Int)) = 149 * (z : Int) := IntWalk.wrap64_in _ ⟨by omega, by omega⟩
  have e2 : wrap64 (149 * (z : Int) + 2719) = 149 * (z : Int) + 2719 := IntWalk.wrap64_in _ ⟨by omega, by omega⟩
  have e3 : (149 * (z : Int) + 2719).tmod 10007 = ((nxN z : Nat) : Int) := by
    rw [Int.tmod_eq_emod_of_nonneg (by omega)]
    simp [nxN]
  go_enter Tryd.func39, Tryd.ntmps39
  go_wp2_with fail
  go_ret
  exact ⟨rfl, rfl⟩
set_option maxRecDepth 100000 in
set_option maxHeartbeats 1600000 in
theorem pzOf_any (l : List UInt8) (W H : Nat) (cells : List UInt8) (k a : Int) (w : World) (hl : l.length ≤ 1048576) (hB : Brd l W H cells) (ha : k = 2 → 0 ≤ a ∧ a < cells.length) :
    Calls Tryd.prog 40 #[.int .i64 k, .int .i64 a, .string ⟨l.toArray⟩] w fun e w' => e = .returned (valC (clOf W cells k a)) ∧ Below w.heap.size w w' := by
  have H0 := Lib.hid (fun w h => pzValue_any l W H cells k 0 w hl hB h)
  have H1 := Lib.hid (fun w => pzValue_any l W H cells k a w hl hB ha)
  have HV : Hid (valC (clOf W cells k a) = if k = 1 ∨ k = 5 then .agg #[.int .i64 k, .int .i64 (vlC W cells k 0 : Nat), .int .i64 0] else .agg #[.int .i64 k, .int .i64 a, .int .i64 (vlC W cells k a : Nat)]) := by
    rw [Hid, clOf]
    split <;> rfl
  have hb0 : Below w.heap.size w (w.alloc (.cells #[.int .i64 0, .int .i64 0, .int .i64 0] 26)) := (Below.refl _ _).alloc (Nat.le_refl _) _
  have hE0 := heap_alloc_new w (.cells #[.int .i64 0, .int .i64 0, .int .i64 0] 26)
  clear hB ha
  cases d1 : k == 1 with
  | true =>
    have hk : k = 1 := by simpa using d1
    have HV1 := Lib.hid (HV.out.trans (if_pos (.inl hk)))
    have hn : ¬ k = 2 := by omega
    have H2 := Lib.hid (fun w => H0.out w fun h => absurd h hn)
    clear hk hn HV H0 H1
    go_enter Tryd.func40, Tryd.ntmps40
    go_wp2_with fail
    generalize w.alloc (.cells #[.int .i64 0, .int .i64 0, .int .i64 0] 26) = w0 at *
    refine (H2.out _).mono ?_
    rintro e w1 ⟨rfl, hb1⟩
    have hE1 := (hb1.block _ (block_lt hE0)).trans hE0
    have hB1 := hb0.trans (hb1.mono hb0.size)
    have HE1 := Lib.hid hE1
    have z0 := cell_of_block hE1 0
    have z1 := cell_of_block hE1 1
    have z2 := cell_of_block hE1 2
    have zf := frozen_of_block hE1
    simp at z0 z1 z2
    clear hE0 hE1 hb0 hb1
    go_wp2_with fail
    obtain ⟨hE5, hb5⟩ := clue_stored (B := w.heap.size) HE1.out (Nat.le_refl _) ⟨k, (vlC W cells k 0 : Nat), 0⟩
    exact bodyPost_ret (results_cell_row rfl _ _ _ _ _ _ _ rfl hE5 Tryd.underlying26 rfl infClu) rfl ⟨by rw [HV1.out], hB1.trans hb5⟩
  | false =>
    cases d5 : k == 5 with
    | true =>
      have hk : k = 5 := by simpa using d5
      have HV1 := Lib.hid (HV.out.trans (if_pos (.inr hk)))
      have hn : ¬ k = 2 := by omega
      have H2 := Lib.hid (fun w => H0.out w fun h => absurd h hn)
      clear hk hn HV H0 H1
      go_enter Tryd.func40, Tryd.ntmps40
      go_wp2_with fail
      generalize w.alloc (.cells #[.int .i64 0, .int .i64 0, .int .i64 0] 26) = w0 at *
      refine (H2.out _).mono ?_
      rintro e w1 ⟨rfl, hb1⟩
      have hE1 := (hb1.block _ (block_lt hE0)).trans hE0
      have hB1 := hb0.trans (hb1.mono hb0.size)
      have HE1 := Lib.hid hE1
      have z0 := cell_of_block hE1 0
      have z1 := cell_of_block hE1 1
      have z2 := cell_of_block hE1 2
      have zf := frozen_of_block hE1
      simp at z0 z1 z2
      clear hE0 hE1 hb0 hb1
      go_wp2_with fail
      obtain ⟨hE5, hb5⟩ := clue_stored (B := w.heap.size) HE1.out (Nat.le_refl _) ⟨k, (vlC W cells k 0 : Nat), 0⟩
      exact bodyPost_ret (results_cell_row rfl _ _ _ _ _ _ _ rfl hE5 Tryd.underlying26 rfl infClu) rfl ⟨by rw [HV1.out], hB1.trans hb5⟩
    | false =>
      have hk : ¬ (k = 1 ∨ k = 5) := by simp at d1 d5; omega
      have HV1 := Lib.hid (HV.out.trans (if_neg hk))
      clear hk HV H0
      go_enter Tryd.func40, Tryd.ntmps40
      go_wp2_with fail
      generalize w.alloc (.cells #[.int .i64 0, .int .i64 0, .int .i64 0] 26) = w0 at *
      refine (H1.out _).mono ?_
      rintro e w1 ⟨rfl, hb1⟩
      have hE1 := (hb1.block _ (block_lt hE0)).trans hE0
      have hB1 := hb0.trans (hb1.mono hb0.size)
      have HE1 := Lib.hid hE1
      have z0 := cell_of_block hE1 0
      have z1 := cell_of_block hE1 1
      have z2 := cell_of_block hE1 2
      have zf := frozen_of_block hE1
      simp at z0 z1 z2
      clear hE0 hE1 hb0 hb1
      go_wp2_with fail
      obtain ⟨hE5, hb5⟩ := clue_stored (B := w.heap.size) HE1.out (Nat.le_refl _) ⟨k, a, (vlC W cells k a : Nat)⟩
      exact bodyPost_ret (results_cell_row rfl _ _ _ _ _ _ _ rfl hE5 Tryd.underlying26 rfl infClu) rfl ⟨by rw [HV1.out], hB1.trans hb5⟩
end Go.Proofs.YthlbplmghjaeoaaDoor
