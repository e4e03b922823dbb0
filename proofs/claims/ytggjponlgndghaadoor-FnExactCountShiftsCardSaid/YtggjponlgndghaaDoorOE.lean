/- Joined boards by the program: all cells one step to the right. -/
import Derived.Test.YtggjponlgndghaaDoorOD
import Derived.Test.YtggjponlgndghaaDoorGT1
namespace Go.Proofs.YtggjponlgndghaaDoor
open Go.RowKit

/-- The last sign of a row comes first. -/
def rtRow (W : Nat) (row : List UInt8) : List UInt8 := row.drop (W - 1) ++ row.take (W - 1)
def rtGo (W : Nat) (cells : List UInt8) (k : Nat) : List UInt8 := ((List.range k).map fun r => rtRow W (rowM cells W r)).flatten
theorem rtGo_succ (W : Nat) (cells : List UInt8) (k : Nat) : rtGo W cells (k + 1) = rtGo W cells k ++ rtRow W (rowM cells W k) := by
  simp [rtGo, List.range_succ]
theorem rowM_len (W H : Nat) (cells : List UInt8) (hn : cells.length = W * H) (k : Nat) (hk : k < H) : (rowM cells W k).length = W := by
  have hq : k * W + W ≤ cells.length := by
    rw [hn, ← Nat.succ_mul, Nat.mul_comm]; exact Nat.mul_le_mul_left W hk
  simp [rowM]; omega
theorem rtGo_length (W H : Nat) (cells : List UInt8) (hn : cells.length = W * H) (hW : 1 ≤ W) : ∀ k, k ≤ H → (rtGo W cells k).length = k * W
  | 0, _ => by simp [rtGo]
  | k + 1, hk => by
    rw [rtGo_succ, List.length_append, rtGo_length W H cells hn hW k (by omega), rtRow, List.length_append, List.length_drop, List.length_take, rowM_len W H cells hn k hk, Nat.succ_mul]
    omega
/-- The last column comes first. -/
def rtM (W H : Nat) (cells : List UInt8) : List UInt8 := rtGo W cells H
theorem rtM_length (W H : Nat) (cells : List UInt8) (hn : cells.length = W * H) (hW : 1 ≤ W) : (rtM W H cells).length = cells.length := by
  rw [rtM, rtGo_length W H cells hn hW H (Nat.le_refl _), hn, Nat.mul_comm]

theorem rtRow_cut {m W : Nat} {row : List UInt8} (hm : m + 1 = W) (hr : row.length = W) : rtRow W row = (row.drop m).take 1 ++ row.take m := by
  rw [rtRow, show W - 1 = m by omega, List.take_of_length_le (l := row.drop m) (by rw [List.length_drop]; omega)]
/-- append of a text to a row of bytes that the call owns. -/
theorem run_appS (w : World) (B ty : Nat) (v : Value) (xs s : List UInt8) (hown : Owns w B 5 v (byts xs)) (hl : xs.length + s.length ≤ 1000000) (hB : B ≤ w.heap.size) :
    ∃ v' w', (Builtin.append_ #[41, 9] ty #[v, .string ⟨s.toArray⟩]).run Tryd.prog w = .ok v' w' ∧ Owns w' B 5 v' (byts (xs ++ s)) ∧ Below B w w' := by
  obtain ⟨i, hi, hz, hsz, hby⟩ := elemByte.info
  have e : (ByteArray.mk s.toArray).size = s.length := by simp [ByteArray.size]
  unfold Owns at hown
  rw [byts_length] at hown
  obtain ⟨v', w', hr, h2, h3, _⟩ := Lib.run_append_own_string (P := Tryd.prog) w B 41 9 ty 5 i elemByte.und Tryd.underlying9 hi hz hsz hby v xs.length (byts xs) hown ⟨s.toArray⟩ (by unfold maxLen; omega) (by omega) hB
  refine ⟨v', w', hr, ?_, (Below.refl B w).grown h3 hB (fun k hk => ?_)⟩
  · unfold Owns
    have e2 : Lib.strCells ⟨s.toArray⟩ = byts s := by simp [Lib.strCells, byts]
    rw [e2, e, byts_append] at h2
    rw [byts_length, List.length_append]
    exact h2
  · have hown' : Owns w B 5 v (byts xs) := by unfold Owns; rw [byts_length]; exact hown
    exact (Owns.lt hown' k hk).1
theorem step_appS {ops : Array Oper} {o : Oper} {a : Act} {K : Act → World → Prop} {Q : Exit → Act → World → Prop} {S : Prop} {w : World} (hgd : o.guard = none) (s x : Operand)
    (ho : o.op = .call { callee := .builtin .append, args := #[s, x], argTypes := #[41, 9] })
    (B : Nat) (v : Value) (xs t : List UInt8) (hs : a.eval s = v) (hown : Owns w B 5 v (byts xs)) (hx : a.eval x = .string ⟨t.toArray⟩)
    (hl : xs.length + t.length ≤ 1000000) (hB : B ≤ w.heap.size)
    (h : ∀ v' w', Owns w' B 5 v' (byts (xs ++ t)) → Below B w w' → K (a.put o.dst v') w') :
    if Region.wanted o (yielded ops a.tmps) = true then Oper.wp Tryd.prog o a w K Q else S := by
  have hw : Region.wanted o (yielded ops a.tmps) = true := by simp [Region.wanted, hgd]
  rw [if_pos hw]
  obtain ⟨v', w', hrun, h2, h3⟩ := run_appS w B o.type v xs t hown hl hB
  unfold Oper.wp execOp
  simp only [ho, resolve, invoke, builtin, Sem.run_bind, Sem.run_pure, Result.andThen_ok, List.map_toArray, List.map_cons, List.map_nil, hs, hx, hrun]
  exact h v' w' h2 h3

set_option maxRecDepth 100000 in
set_option maxHeartbeats 1600000 in
theorem toRight_any (W H : Nat) (J : Bool) (a : Option Addr) (cells : List UInt8) (cap : Nat) (w : World) (hat : At w a (byts cells)) (hcap : cells.length ≤ cap) (hn : cells.length = W * H) (hW : 1 ≤ W ∧ W ≤ 8) (hH : 1 ≤ H ∧ H ≤ 8) :
    Calls Tryd.prog 67 #[.agg #[.int .i64 W, .int .i64 H, .slice a cells.length cap, .bool J]] w fun e w' => ∃ a' cap', e = .returned (.agg #[.int .i64 W, .int .i64 H, .slice a' cells.length cap', .bool J]) ∧
      Owns w' w.heap.size 5 (.slice a' cells.length cap') (byts (rtM W H cells)) ∧ Below w.heap.size w w' := by
  have hb0 : Below w.heap.size w ((w.alloc (.cells #[.int .i64 W, .int .i64 H, .slice a cells.length cap, .bool J] 43)).alloc (.cells #[.int .i64 0, .int .i64 0, .slice none 0 0, .bool false] 43)) := ((Below.refl _ w).alloc (Nat.le_refl _) _).alloc (by simp) _
  have hG0 : ((w.alloc (.cells #[.int .i64 W, .int .i64 H, .slice a cells.length cap, .bool J] 43)).alloc (.cells #[.int .i64 0, .int .i64 0, .slice none 0 0, .bool false] 43)).heap[w.heap.size]? = some (.cells #[.int .i64 W, .int .i64 H, .slice a cells.length cap, .bool J] 43 (0, 0)) := by
    rw [(((Below.refl _ (w.alloc (.cells #[.int .i64 W, .int .i64 H, .slice a cells.length cap, .bool J] 43))).alloc (Nat.le_refl _) _).block _ (by simp))]
    exact heap_alloc_new w _
  have hR0 : ((w.alloc (.cells #[.int .i64 W, .int .i64 H, .slice a cells.length cap, .bool J] 43)).alloc (.cells #[.int .i64 0, .int .i64 0, .slice none 0 0, .bool false] 43)).heap[w.heap.size + 1]? = some (.cells #[.int .i64 0, .int .i64 0, .slice none 0 0, .bool false] 43 (0, 0)) := by
    have := heap_alloc_new (w.alloc (.cells #[.int .i64 W, .int .i64 H, .slice a cells.length cap, .bool J] 43)) (.cells #[.int .i64 0, .int .i64 0, .slice none 0 0, .bool false] 43)
    simpa using this
  have hs0 : ((w.alloc (.cells #[.int .i64 W, .int .i64 H, .slice a cells.length cap, .bool J] 43)).alloc (.cells #[.int .i64 0, .int .i64 0, .slice none 0 0, .bool false] 43)).heap.size = w.heap.size + 2 := by simp
  have hlen := rtGo_length W H cells hn hW.1
  have HL := Lib.hid (rtM_length W H cells hn hW.1)
  have hrl := rowM_len W H cells hn
  have HRT := Lib.hid (fun k w h hk => rowText_any (J := J) W H a cells cap k w h hcap hn hW hH.2 hk)
  have h64 : cells.length ≤ 64 := by rw [hn]; exact Nat.mul_le_mul hW.2 hH.2
  have HN := Lib.hid hn
  clear hn
  go_enter Tryd.func67, Tryd.ntmps67
  go_wp2_with fail
  generalize (w.alloc (.cells #[.int .i64 W, .int .i64 H, .slice a cells.length cap, .bool J] 43)).alloc (.cells #[.int .i64 0, .int .i64 0, .slice none 0 0, .bool false] 43) = w0 at *
  have hat0 := hat.later rfl hb0
  have HS0 := Lib.hid hs0
  have HG0 := Lib.hid hG0
  have HR0 := Lib.hid hR0
  have HB0 := Lib.hid hb0
  have HLEN := Lib.hid hlen
  have HRL := Lib.hid hrl
  have hf0 := cell_of_block hG0 0
  have hf1 := cell_of_block hG0 1
  have hf2 := cell_of_block hG0 2
  have hf3 := cell_of_block hG0 3
  simp at hf0 hf1 hf2 hf3
  clear hs0 hG0 hR0 hb0 hlen hrl hat
  go_loopw [3, 8] (fun v i wr => ∃ k : Nat, k ≤ H ∧ i = .int .i64 k ∧ Owns wr w0.heap.size 5 v (byts (rtGo W cells k)) ∧ Below w0.heap.size w0 wr) (fun _ i _ => H - (intOf i).toNat)
  case atStart => exact ⟨0, Nat.zero_le _, rfl, Owns.nil _ _ _, Below.refl _ _⟩
  case round =>
    obtain ⟨k, hk, rfl, hown, hb⟩ := hrel
    have hG := (hb.block w.heap.size (by have := HS0.out; omega)).trans HG0.out
    have hf0 := cell_of_block hG 0
    have hf1 := cell_of_block hG 1
    have hf2 := cell_of_block hG 2
    have hf3 := cell_of_block hG 3
    simp at hf0 hf1 hf2 hf3
    by_cases hlt : k < H
    · have HL2 := Lib.hid (HRL.out k hlt)
      have HLk := Lib.hid (HLEN.out k (by omega))
      have HA := Lib.hid (hat0.later rfl hb)
      clear hG hat0
      go_wp2_with fail
      refine (HRT.out k _ HA.out hlt).mono ?_
      rintro e w2 ⟨rfl, hb2⟩
      have hG2 := ((hb.trans (hb2.mono hb.size)).block w.heap.size (by have := HS0.out; omega)).trans HG0.out
      have hf0 := cell_of_block hG2 0
      have hf1 := cell_of_block hG2 1
      have hf2 := cell_of_block hG2 2
      have hf3 := cell_of_block hG2 3
      simp at hf0 hf1 hf2 hf3
      go_wp2_with fail
      have hlr : (rowM cells W k).length = W := HL2.out
      obtain ⟨m, hm⟩ : ∃ m, m + 1 = W := ⟨W - 1, by omega⟩
      have hwr : ((W : Int) - 1) = (m : Int) := by omega
      have hm8 : m ≤ 8 := by omega
      have hbig : ¬ 9223372036854775807 < 1 + m := by omega
      have hmW : m ≤ W := by omega
      have hWm : W - m = 1 := by omega
      have hwp : IntKind.i64.wrap (m : Int) = (m : Int) := by rw [IntKind.wrap_i64]; omega
      have hown2 : Owns w2.drew w0.heap.size 5 u3 (byts (rtGo W cells k)) := hown.later (hb2.trans ⟨rfl, rfl, rfl, Nat.le_refl _, fun _ _ => rfl⟩)
      have hbd : Below w0.heap.size w0 w2.drew := (hb.trans (hb2.mono hb.size)).trans ⟨rfl, rfl, rfl, Nat.le_refl _, fun _ _ => rfl⟩
      have HOW := Lib.hid hown2
      have HBD := Lib.hid hbd
      have hkW : k * W ≤ 64 := by
        exact Nat.le_trans (Nat.mul_le_mul (Nat.le_trans hk hH.2) hW.2) (by decide)
      clear hG2 hown hown2 hbd
      generalize hrow : rowM cells W k = row at *
      have HX := Lib.hid (rtRow_cut hm hlr)
      have HY : Hid ((rtRow W row).length = W) := by rw [Hid, rtRow, List.length_append, List.length_drop, List.length_take]; omega
      go_region_law (first
        | (refine step_appS rfl _ _ (by rfl) w0.heap.size _ (rtGo W cells k) ((row.drop m).take 1 ++ row.take m) (by rfl) HOW.out (by rfl) (by rw [HLk.out, ← HX.out, HY.out]; omega) (by exact HBD.out.size) ?_; intro v7 w7 hown7 hb7))
      all_goals
        rw [← HX.out, ← hrow, ← rtGo_succ] at hown7
        have hb07 := HBD.out.trans hb7
        clear hb7 hf0 hf1 hf2 hf3
        go_wp2_with fail
        go_roundw
        case rel => exact ⟨k + 1, by omega, by go_num, hown7, hb07⟩
        case measure => simp [intOf]; omega
    · obtain rfl : k = H := by omega
      rw [show rtGo W cells k = rtM W k cells from rfl] at hown
      obtain ⟨a5, cap5, hv⟩ := hown.shape
      rw [byts_length, HL.out] at hv
      subst hv
      have hs7 := HS0.out
      have hs5 := hb.size
      have hR := (hb.block (w.heap.size + 1) (by omega)).trans HR0.out
      have hqg := frozen_of_block hG 2
      have hcg := hf2
      have hG6 := block_set hG 2 (.slice a5 cells.length cap5)
      have hR6 := (awayH (w := wr) (show w.heap.size + 1 ≠ w.heap.size by omega) 2 (.slice a5 cells.length cap5)).trans hR
      have hg0 := cell_of_block hG6 0
      have hg1 := cell_of_block hG6 1
      have hg2 := cell_of_block hG6 2
      have hg3 := cell_of_block hG6 3
      have hR0' := cell_of_block hR6 0
      have hR1' := cell_of_block hR6 1
      have hR2' := cell_of_block hR6 2
      have hR3' := cell_of_block hR6 3
      simp at hg0 hg1 hg2 hg3 hR0' hR1' hR2' hR3'
      have hq0 := frozen_of_block hR6 0
      have hq1 := frozen_of_block hR6 1
      have hq2 := frozen_of_block hR6 2
      have hq3 := frozen_of_block hR6 3
      have HR := Lib.hid hR6
      have HX := Lib.hid hown
      have HB := Lib.hid hb
      clear hR hR6 hG hG6 hown hb
      go_wp2_with fail
      have b3 := block_set (block_set (block_set (block_set HR.out 0 (.int .i64 W)) 1 (.int .i64 k)) 2 (.slice a5 cells.length cap5)) 3 (.bool J)
      have hv5 : (Value.slice a5 cells.length cap5).ownBlock ≠ some w.heap.size := fun h => by
        have := (Owns.lt HX.out _ h).1
        omega
      have hv6 : (Value.slice a5 cells.length cap5).ownBlock ≠ some (w.heap.size + 1) := fun h => by
        have := (Owns.lt HX.out _ h).1
        omega
      refine bodyPost_ret (v := .agg #[.int .i64 W, .int .i64 k, .slice a5 cells.length cap5, .bool J]) ?_ rfl ?_
      · have r0 := cell_of_block b3 0
        have r1 := cell_of_block b3 1
        have r2 := cell_of_block b3 2
        have r3 := cell_of_block b3 3
        simp at r0 r1 r2 r3
        simp [results, Tryd.results67, go_sem, r0, r1, r2, r3]
      · refine ⟨_, cap5, rfl, ((((((HX.out.mono (by omega)).setOther _ _ _ hv5).setOther _ _ _ hv6).setOther _ _ _ hv6).setOther _ _ _ hv6).setOther _ _ _ hv6), ?_⟩
        exact ((HB0.out.trans (HB.out.mono (by omega))).trans (Below.set 2 _)).trans (((((Below.set 0 _).trans (Below.set 1 _)).trans (Below.set 2 _)).trans (Below.set 3 _)).mono (by omega))
end Go.Proofs.YtggjponlgndghaaDoor
