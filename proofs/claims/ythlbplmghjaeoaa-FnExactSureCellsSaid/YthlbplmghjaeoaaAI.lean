/- Puzzles by the program: whether a board fits all clues. -/
import Derived.Test.YthlbplmghjaeoaaAH
import Derived.Test.YthlbplmghjaeoaaA5
import Derived.Laws.StructEq
import Derived.Deep.MidRow
import Derived.Deep.RegionHeld
import Derived.Outline
namespace Go.Proofs.Ythlbplmghjaeoaa
open Go.RowKit

/-- A load of one cell yields its value in every world that meets S. -/
theorem yields_int {P : Program} {ops : Array Oper} {S : World → Prop} {op : Oper} {a : Act} (hw : Region.wanted op (yielded ops a.tmps) = true) (ty : TypeId) (hu : P.underlying ty = some (.int .i64)) (x : Operand) (ho : op.op = .load ty x)
    (b o : Nat) (hx : a.eval x = .pointer (some ⟨b, o, none⟩)) (v : Value) (hS : ∀ w, S w → w.cell? ⟨b, o, none⟩ = some v) : YieldsIf P ops S op v a :=
  .inl ⟨hw, fun w hw' => by
    have hc := hS w hw'
    have hagg : (isAgg ty).run P w = .ok false w := by
      unfold isAgg
      rw [Sem.run_bind, run_underlying hu w]
      rfl
    have hld : (loadVar ty ⟨b, o, none⟩).run P w = .ok v w := by
      simp [loadVar, Sem.run_bind, hagg, go_sem, hc]
    unfold execOp
    simp only [ho, hx, Instr.loadAt, Instr.sureAddr, Sem.run_bind, Sem.run_pure, Result.andThen_ok, hld]⟩
theorem neq_clue (c d : Clu) (w : World) : (binOp BinOp.neq 34 (valC c) (valC d)).run Try.prog w = .ok (.bool (!decide (c = d))) w := by
  have ht : Try.prog.underlying 34 = some (.struct (Try.prog.fieldsOf 34)) := by kernel_rfl
  have hp : Try.prog.stoodInHeld 34 = false := by kernel_rfl
  have hf := ht.symm.trans Try.underlying34
  simp only [Option.some.injEq, TypeDesc.struct.injEq] at hf
  obtain ⟨k, a, b⟩ := c
  obtain ⟨k', a', b'⟩ := d
  unfold valC
  rw [run_neq_struct, run_equalIn_struct _ _ _ _ _ ht hp, hf]
  have h3 := fun (x y : Int) (d : Nat) (w : World) => run_equalIn_int (P := Try.prog) w d 3 .i64 .i64 x y Try.underlying3
  have e : decide ((⟨k, a, b⟩ : Clu) = ⟨k', a', b'⟩) = (k == k' && (a == a' && b == b')) := by
    rw [Bool.eq_iff_iff]; simp
  rw [e]
  simp [Op.eqFields, part, Try.isAgg3, h3]
  by_cases q1 : k = k' <;> by_cases q2 : a = a' <;> by_cases q3 : b = b' <;> simp [q1, q2, q3]
theorem yields_neq {ops : Array Oper} {S : World → Prop} {op : Oper} {a : Act} (c d : Clu) (hw : Region.wanted op (yielded ops a.tmps) = true) (x y : Operand) (ho : op.op = .binOp .neq 34 x y 34) (hx : a.eval x = valC c) (hy : a.eval y = valC d) : YieldsIf Try.prog ops S op (.bool (!decide (c = d))) a :=
  .inl ⟨hw, fun w _ => by
    have h1 : (eqGuard BinOp.neq 34 x y (valC c) (valC d)).run Try.prog w = .ok () w := run_eqGuard_agg w _ _ _ _ _ _ (by kernel_rfl)
    have h2 := neq_clue c d w
    unfold execOp
    simp only [ho, hx, hy, Sem.run_bind, Result.andThen_ok, h1, h2, Sem.run_pure]⟩
set_option maxRecDepth 100000 in
set_option maxHeartbeats 1600000 in
theorem fitsCl_any (W H m cap P K0 : Nat) (a : Option Addr) (u : List UInt8) (c : Clu) (w : World) (hW : 1 ≤ W ∧ W ≤ 8) (hH : 1 ≤ H ∧ H ≤ 8) (h9 : W * H ≤ 9) (hu : u.length = W * H) (hb2 : Brd2 u) (hc : cluB W H c = true)
    (hP : w.heap[P]? = some (.cells #[.int .i64 W, .int .i64 H, .slice a m cap] 30 (0, 0))) (hK0 : w.heap[K0]? = some (.cells (encB (preB W (W * H) u)).toArray 58 (0, 0))) :
    Calls Try.prog 53 #[valC c, .pointer (some ⟨P, 0, none⟩), .pointer (some ⟨K0, 0, none⟩)] w fun e w' => e = .returned (.bool (!fitC W u c)) ∧ Below w.heap.size w w' := by
  have hC := clOf_fit (u := u) hc
  have HD : Hid ((!decide (clOf W u c.k c.a = c)) = !fitC W u c) := by
    rw [Hid]
    cases hf : fitC W u c with
    | true => rw [decide_eq_true (hC.2 hf)]
    | false => rw [decide_eq_false (fun e => by rw [hC.1 e] at hf; cases hf)]
  have HCO : Hid (∀ w, Calls Try.prog 54 #[.agg #[.int .i64 W, .int .i64 H, .slice a m cap], .agg (encB (preB W (W * H) u)).toArray, .int .i64 c.k, .int .i64 c.a] w fun e w' => e = .returned (valC (clOf W u c.k c.a)) ∧ Below w.heap.size w w') := fun w => by
    unfold cluB limC at hc
    refine clueOf_any W H m cap c.k c.a a u w hW hH h9 hu hb2 ?_ ?_ ?_ ?_
    · by_cases q0 : c.k = 0
      · omega
      by_cases q1 : c.k = 1
      · omega
      by_cases q2 : c.k = 2
      · omega
      by_cases q3 : c.k = 3
      · omega
      by_cases q4 : c.k = 4
      · omega
      by_cases q5 : c.k = 5
      · omega
      rw [if_neg q0, if_neg q1, if_neg q2, if_neg q3, if_neg q4, if_neg q5] at hc
      cases hc
    · rintro (h | h)
      · rw [h] at hc; simp [inB] at hc; omega
      · rw [h] at hc; simp [inB] at hc; omega
    · intro h; rw [h] at hc; simp [inB] at hc; omega
    · intro h; rw [h] at hc; simp [inB] at hc; omega
  generalize clOf W u c.k c.a = cl at *
  generalize fitC W u c = ft at *
  obtain ⟨k1, a1, b1⟩ := cl
  unfold valC at HCO
  simp only at HCO
  generalize preB W (W * H) u = x at *
  clear hC hc
  have hb : Below w.heap.size w (w.alloc (.cells #[.int .i64 c.k, .int .i64 c.a, .int .i64 c.b] 34)) := (Below.refl _ _).alloc (Nat.le_refl _) _
  have hG := heap_alloc_new w (.cells #[.int .i64 c.k, .int .i64 c.a, .int .i64 c.b] 34)
  have hP1 := (hb.block _ (block_lt hP)).trans hP
  have hK1 := (hb.block _ (block_lt hK0)).trans hK0
  have hv : valC c = .agg #[.int .i64 c.k, .int .i64 c.a, .int .i64 c.b] := rfl
  rw [hv]
  go_enter Try.func53, Try.ntmps53
  go_upto_region 1 with fail
  generalize w.alloc (.cells #[.int .i64 c.k, .int .i64 c.a, .int .i64 c.b] 34) = w1 at *
  have hbw := Lib.hid hb
  generalize hGG : w.heap.size = G at hG ⊢
  have hS : w1.drew.rangeAt P 0 [.int .i64 W, .int .i64 H, .slice a m cap] ∧ w1.drew.rangeAt K0 0 (encB x) ∧ w1.drew.rangeAt G 0 (encC c) := ⟨range3 (cell_of_block hP1 0) (cell_of_block hP1 1) (cell_of_block hP1 2), range24 hK1, range3 (cell_of_block hG 0) (cell_of_block hG 1) (cell_of_block hG 2)⟩
  refine wp_region_held_drew (S := fun w' => w'.rangeAt P 0 [.int .i64 W, .int .i64 H, .slice a m cap] ∧ w'.rangeAt K0 0 (encB x) ∧ w'.rangeAt G 0 (encC c)) (by kernel_rfl) hS (fun hH => ?_)
  refine wpAnyH_take (i := 0) (v := .agg #[.int .i64 W, .int .i64 H, .slice a m cap]) rfl (by kernel_rfl) (by kernel_rfl) (by kernel_rfl) (fun _ _ _ h => h) (yieldsIf_load_mid (by rfl) 30 _ rfl P 0 rfl [.int .i64 W, .int .i64 H, .slice a m cap] _ (fun _ h => h.1) Try.underlying30 rfl infPuz) hH ?_
  refine wpAnyH_take (i := 1) (v := .agg (encB x).toArray) rfl (by kernel_rfl) (by kernel_rfl) (by kernel_rfl) (fun _ _ _ h => h) (yieldsIf_load_mid (by rfl) 58 _ rfl K0 0 rfl (encB x) _ (fun _ h => h.2.1) Try.underlying58 rfl (inf67.trans (by rw [encB_len]))) hH ?_
  refine wpAnyH_take (i := 2) (v := .pointer (some ⟨G, 0, none⟩)) rfl (by kernel_rfl) (by kernel_rfl) (by kernel_rfl) (fun _ _ _ h => h) (Or.inl ⟨by rfl, fun _ _ => rfl⟩) hH ?_
  refine wpAnyH_take (i := 3) (v := .int .i64 c.k) rfl (by kernel_rfl) (by kernel_rfl) (by kernel_rfl) (fun _ _ _ h => h) (yields_int (by rfl) 3 Try.underlying3 _ rfl G 0 rfl _ (fun _ h => h.2.2 0 _ rfl)) hH ?_
  refine wpAnyH_take (i := 4) (v := .pointer (some ⟨G, 1, none⟩)) rfl (by kernel_rfl) (by kernel_rfl) (by kernel_rfl) (fun _ _ _ h => h) (Or.inl ⟨by rfl, fun _ _ => rfl⟩) hH ?_
  refine wpAnyH_take (i := 5) (v := .int .i64 c.a) rfl (by kernel_rfl) (by kernel_rfl) (by kernel_rfl) (fun _ _ _ h => h) (yields_int (by rfl) 3 Try.underlying3 _ rfl G 1 rfl _ (fun _ h => h.2.2 1 _ rfl)) hH ?_
  refine wpAnyH_take (i := 7) (v := .agg #[.int .i64 c.k, .int .i64 c.a, .int .i64 c.b]) rfl (by kernel_rfl) (by kernel_rfl) (by kernel_rfl) (fun _ _ _ h => h) (yieldsIf_load_mid (by rfl) 34 _ rfl G 0 rfl (encC c) _ (fun _ h => h.2.2) Try.underlying34 rfl infClu) hH ?_
  refine wpAnyH_ready (rs := [6]) (by kernel_rfl) (by simp) ?_
  refine AllReadyH.cons rfl (fun K hK => ?_) AllReadyH.nil
  go_simp
  refine (HCO.out _).mono ?_
  rintro e w2 ⟨rfl, hb2⟩
  go_wp2_with fail
  have hS2 : w2.rangeAt P 0 [.int .i64 W, .int .i64 H, .slice a m cap] ∧ w2.rangeAt K0 0 (encB x) ∧ w2.rangeAt G 0 (encC c) := ⟨range_later hH.1 hb2, range_later hH.2.1 hb2, range_later hH.2.2 hb2⟩
  refine hK.out _ _ hS2 (fun hH2 => ?_)
  clear hK K hH
  have hb3 := hbw.out.trans ((ofDrewC hb2).mono hbw.out.size)
  refine wpAnyH_take (i := 8) (v := .bool (!ft)) rfl (by kernel_rfl) (by kernel_rfl) (by kernel_rfl) (fun _ _ _ h => h) (by rw [← HD.out]; exact yields_neq ⟨k1, a1, b1⟩ c (by rfl) _ _ rfl rfl rfl) hH2 ?_
  refine wpAnyH_ready (rs := [9]) (by kernel_rfl) (by simp) ?_
  refine AllReadyH.cons rfl (fun K hK => ?_) AllReadyH.nil
  go_simp
  refine hK.out _ _ hS2 (fun _ => ?_)
  clear hK K
  refine wpAnyH_done (by kernel_rfl) ?_ _
  go_wp2_with fail
  go_ret
  exact ⟨rfl, hb3⟩
end Go.Proofs.Ythlbplmghjaeoaa
