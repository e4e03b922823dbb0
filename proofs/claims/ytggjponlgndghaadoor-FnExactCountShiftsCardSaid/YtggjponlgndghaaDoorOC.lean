/- Joined boards by the program: rows put behind one another (slices.Grow and slices.Concat of two rows of bytes). -/
import Derived.Test.YtggjponlgndghaaDoorO3
import Derived.Test.YtggjponlgndghaaDoorGY1
import Derived.Lib.AppendZerosOnto
import Derived.Lib.AppendStr
import Derived.Outline
namespace Go.Proofs.YtggjponlgndghaaDoor
open Go.RowKit

theorem At.dropped {w : World} {b off : Nat} {xs : List Value} (h : At w (some ⟨b, off, none⟩) xs) (k : Nat) : At w (some ⟨b, off + k, none⟩) (xs.drop k) := by
  intro j hj
  rw [List.length_drop] at hj
  obtain ⟨b', off', he, hc⟩ := h (k + j) (by omega)
  simp only [Option.some.injEq, Addr.mk.injEq, and_true] at he
  obtain ⟨rfl, rfl⟩ := he
  exact ⟨b, off + k, rfl, by rw [Nat.add_assoc, hc, List.getElem_drop]⟩
theorem At.taken {w : World} {a : Option Addr} {xs : List Value} (h : At w a xs) (k : Nat) : At w a (xs.take k) := by
  intro j hj
  rw [List.length_take] at hj
  obtain ⟨b, off, he, hc⟩ := h j (by omega)
  exact ⟨b, off, he, by rw [hc, List.getElem_take]⟩
theorem byts_drop (xs : List UInt8) (k : Nat) : (byts xs).drop k = byts (xs.drop k) := by simp [byts]
theorem byts_take (xs : List UInt8) (k : Nat) : (byts xs).take k = byts (xs.take k) := by simp [byts]
theorem byts_one (xs : List UInt8) : ∀ u ∈ byts xs, u.oneCell' = true := by
  intro u hu
  simp only [byts, List.mem_map] at hu
  obtain ⟨x, _, rfl⟩ := hu
  rfl

/-- append as it was run. -/
theorem wpList_appRun {P : Program} {ops : Array Oper} {rest : List Oper} {o : Oper} {a : Act} {Q : Exit → Act → World → Prop} {w : World} (hgd : o.guard = none) (s x : Operand) (t u : TypeId)
    (ho : o.op = .call { callee := .builtin .append, args := #[s, x], argTypes := #[t, u] }) (v v2 v' : Value) (w' : World) (hs : a.eval s = v) (hx : a.eval x = v2)
    (hr : (Builtin.append_ #[t, u] o.type #[v, v2]).run P w = .ok v' w') (h : wpList P ops Q rest (a.put o.dst v') w') : wpList P ops Q (o :: rest) a w := by
  refine wpList_plain hgd fun K hK => ?_
  unfold Oper.wp execOp
  simp only [ho, resolve, invoke, builtin, Sem.run_bind, Sem.run_pure, Result.andThen_ok, List.map_toArray, List.map_cons, List.map_nil, hs, hx, hr]
  exact hK _ _ h

set_option maxRecDepth 100000 in
set_option maxHeartbeats 800000 in
/-- slices.Grow of a row that is nil, for so many bytes. -/
theorem grow_nil (n : Nat) (w : World) (hn : 0 < n) (hn2 : n ≤ 1000) :
    Calls Tryd.prog 82 #[.slice none 0 0, .int .i64 n] w fun e w' => ∃ v, e = .returned v ∧ Owns w' w.heap.size 5 v (byts []) ∧ Below w.heap.size w w' := by
  obtain ⟨i, hi, hz, hsz, hby⟩ := elemByte.info
  have hrz := fun ty => Lib.run_append_grow_zeros (P := Tryd.prog) w 41 3 ty 5 i (.int .u8 0) .i64 .i64 elemByte.und (by kernel_rfl) hi hz none 0 0 [] (run_firstCells_none w.drew i.size 0 0 0) n hn (by omega) (by omega) (by omega) (by rw [hby]; omega) (by rw [hby]; exact growslice_fits (by omega) (by omega))
  have hge := grownCap_ge w (0 + n) 0 5
  have hle := grownCap_le_maxLen w (0 + n) 0 5 (by unfold maxLen; omega)
  have hsz2 : ∀ k, (Builtin.zeroCells (Value.int .u8 0).cells k).size = k := fun k => by rw [size_zeroCells]; simp [Value.cells]
  have hnew : ∀ (K : Array Value), K.size = grownCap w (0 + n) 0 5 → Owns (w.drew.alloc (.cells K 5)) w.heap.size 5 (.slice (some ⟨w.heap.size, 0, none⟩) 0 (grownCap w (0 + n) 0 5)) (byts []) := fun K hK => by
    refine ⟨by simp [byts], .inr ⟨w.heap.size, _, K, by simp [byts], Nat.le_refl _, heap_alloc_new w.drew _, by simp [byts], hle, by simpa using hK, by simp [byts]⟩⟩
  have hb0 : ∀ o, Below w.heap.size w (w.drew.alloc o) := fun o => (show Below w.heap.size w w.drew from ⟨rfl, rfl, rfl, Nat.le_refl _, fun _ _ => rfl⟩).alloc (Nat.le_refl _) _
  have hd1 : ((n : Int) < 0) = False := by simp
  have hd2 : decide ((n : Int) > 0) = true := by simp; omega
  have hd3 : decide ((n : Int) < 0) = false := by simp
  go_enter Tryd.func82, Tryd.ntmps82
  go_wp2_with (at_builtin; refine wpList_appRun rfl _ _ _ _ (by rfl) _ _ _ _ (by rfl) (by rfl) (hrz _) ?_)
  go_ret
  rw [Nat.zero_add] at hnew hge
  exact ⟨_, rfl, hnew _ (by rw [Array.size_append, size_zeroCells, size_zeroCells]; simp; omega), hb0 _⟩

set_option maxRecDepth 100000 in
set_option maxHeartbeats 1600000 in
/-- slices.Concat of two rows of bytes. -/
theorem concat2_any (A a1 a2 : Option Addr) (X Y : List UInt8) (c c1 c2 : Nat) (w : World) (hA : At w A [.slice a1 X.length c1, .slice a2 Y.length c2]) (h1 : At w a1 (byts X)) (h2 : At w a2 (byts Y)) (hp : 0 < X.length + Y.length) (h64 : X.length + Y.length ≤ 64) :
    Calls Tryd.prog 75 #[.slice A 2 c] w fun e w' => ∃ a cap, e = .returned (.slice a (X ++ Y).length cap) ∧ Owns w' w.heap.size 5 (.slice a (X ++ Y).length cap) (byts (X ++ Y)) ∧ Below w.heap.size w w' := by
  have hat : ∀ wr, Below w.heap.size w wr → ∀ (k : Nat), k < 2 → ∃ b off aZ Z cZ, A = some ⟨b, off, none⟩ ∧ wr.cell? ⟨b, off + k, none⟩ = some (.slice aZ (List.length Z) cZ) ∧ At wr aZ (byts Z) ∧ ([X, Y][k]?).getD [] = Z ∧ Z.length ≤ 64 := fun wr hb k hk => by
    have hA := hA.later rfl hb
    have h1 := h1.later rfl hb
    have h2 := h2.later rfl hb
    obtain ⟨b, off, he, hc⟩ := hA k hk
    obtain rfl | rfl : k = 0 ∨ k = 1 := by omega
    · exact ⟨b, off, a1, X, c1, he, hc, h1, rfl, by omega⟩
    · exact ⟨b, off, a2, Y, c2, he, hc, h2, rfl, by omega⟩
  have HAT := Lib.hid hat
  have HS : Hid (∀ k, k < 2 → ((([X, Y].take k).map List.length).sum + (([X, Y][k]?).getD []).length = (([X, Y].take (k + 1)).map List.length).sum) ∧ (([X, Y].take k).map List.length).sum ≤ 64) := fun k hk => by
    obtain rfl | rfl : k = 0 ∨ k = 1 := by omega
    · simp
    · simp; omega
  have HF : Hid (∀ k, k < 2 → (([X, Y].take k).flatten ++ (([X, Y][k]?).getD []) = ([X, Y].take (k + 1)).flatten) ∧ ([X, Y].take k).flatten.length ≤ 64) := fun k hk => by
    obtain rfl | rfl : k = 0 ∨ k = 1 := by omega
    · simp
    · simp; omega
  have HE : Hid ((([X, Y].take 2).map List.length).sum = X.length + Y.length) := by simp [Hid]
  have HE2 : Hid (([X, Y].take 2).flatten = X ++ Y) := by simp [Hid]
  clear hat hA h1 h2
  generalize X.length + Y.length = n at *
  have hd0 : decide ((n : Int) < 0) = false := by simp
  go_enter Tryd.func75, Tryd.ntmps75
  go_wp2_with fail
  go_loop [3, 11] (fun s i => ∃ k : Nat, k ≤ 2 ∧ i = .int .i64 k ∧ s = .int .i64 ((([X, Y].take k).map List.length).sum : Nat)) (fun _ i => 2 - (intOf i).toNat)
  case atStart => exact ⟨0, by omega, rfl, rfl⟩
  case round =>
    obtain ⟨k, hk, rfl, rfl⟩ := hrel
    by_cases hlt : k < 2
    · obtain ⟨b, off, aZ, Z, cZ, rfl, hc, haZ, hZ, hZ64⟩ := HAT.out w (Below.refl _ _) k hlt
      have hs := HS.out k hlt
      rw [hZ] at hs
      have HN := Lib.hid hs.1
      have hs2 := hs.2
      clear hs hZ
      generalize (([X, Y].take k).map List.length).sum = s at *
      have hd1 : decide (((s : Int) + (Z.length : Int)) < 0) = false := by simp; omega
      go_wp2_with fail
      go_round
      case rel => exact ⟨k + 1, by omega, by go_num, by rw [← HN.out]; go_num⟩
      case measure => simp [intOf]; omega
    · obtain rfl : k = 2 := by omega
      rw [HE.out]
      go_wp2_with fail
      refine (grow_nil n _ hp (by omega)).mono ?_
      rintro e w1 ⟨v, rfl, hown1, hb1⟩
      go_wp2_with fail
      go_loopw [6, 27] (fun v i wr => ∃ k : Nat, k ≤ 2 ∧ i = .int .i64 k ∧ Owns wr w.heap.size 5 v (byts ([X, Y].take k).flatten) ∧ Below w.heap.size w wr) (fun _ i _ => 2 - (intOf i).toNat)
      case atStart => exact ⟨0, by omega, rfl, hown1, hb1⟩
      case round =>
        obtain ⟨k, hk, rfl, hown, hb⟩ := hrel
        by_cases hlt : k < 2
        · obtain ⟨b, off, aZ, Z, cZ, rfl, hc, hat2, hZ, hZ64⟩ := HAT.out wr hb k hlt
          have hs := HF.out k hlt
          rw [hZ] at hs
          have HN := Lib.hid hs.1
          have hs2 := hs.2
          clear hs hZ
          generalize ([X, Y].take k).flatten = s at *
          have s1 := hb.size
          go_wp2_with (at_builtin; refine wpList_appA rfl _ _ _ (by rfl) w.heap.size _ _ _ elemByte _ (byts s) (by rfl) hown _ _ _ (byts Z) (by rfl) (byts_length _) hat2 (byts_one _) (by simp; omega) (by simp; omega) (by omega) ?_; intro v3 w3 hown3 hb3)
          go_roundw
          case rel => exact ⟨k + 1, by omega, by go_num, by rw [← HN.out, ← byts_append]; exact hown3, hb.trans hb3⟩
          case measure => simp [intOf]; omega
        · obtain rfl : k = 2 := by omega
          rw [HE2.out] at hown
          obtain ⟨a', cap', hv⟩ := hown.shape
          rw [byts_length] at hv
          subst hv
          go_wp2_with fail
          go_ret
          exact ⟨_, _, rfl, hown, hb⟩
end Go.Proofs.YtggjponlgndghaaDoor
