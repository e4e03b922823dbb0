/- CG, CH, CI, laid as one text. -/
import Derived.Test.YthlbplmghjaeoacDoorC3
import Derived.Outline
import Derived.Test.YthlbplmghjaeoacDoorC9

/- Sets of cells by the program: how many a set has. -/
namespace Go.Proofs.YthlbplmghjaeoacDoor
open Go.RowKit

theorem sA_all (x : Nat) (h : x < 18446744073709551616) : sA (x : Int) = (nAB 2 6148914691236517205 x : Nat) := by
  have e := u64_and (x / 2) 6148914691236517205 (by omega) (by omega)
  have e2 := u64_and x 6148914691236517205 (by omega) (by omega)
  have hl : x / 2 &&& 6148914691236517205 ≤ 6148914691236517205 := Nat.and_le_right
  have hl2 : x &&& 6148914691236517205 ≤ 6148914691236517205 := Nat.and_le_right
  have e3 : ((x : Int) / 2) = ((x / 2 : Nat) : Int) := rfl
  have e4 : (6148914691236517205 : Int) = ((6148914691236517205 : Nat) : Int) := rfl
  rw [sA, e3, e4, e, e2]
  unfold nAB
  rw [← Int.natCast_add]
  exact wrap_u64 _ (by omega) (by omega)
theorem sB_all (x : Nat) (h : x < 18446744073709551616) : sB (x : Int) = (nAB 4 3689348814741910323 x : Nat) := by
  have e := u64_and (x / 4) 3689348814741910323 (by omega) (by omega)
  have e2 := u64_and x 3689348814741910323 (by omega) (by omega)
  have hl : x / 4 &&& 3689348814741910323 ≤ 3689348814741910323 := Nat.and_le_right
  have hl2 : x &&& 3689348814741910323 ≤ 3689348814741910323 := Nat.and_le_right
  have e3 : ((x : Int) / 4) = ((x / 4 : Nat) : Int) := rfl
  have e4 : (3689348814741910323 : Int) = ((3689348814741910323 : Nat) : Int) := rfl
  rw [sB, e3, e4, e, e2]
  unfold nAB
  rw [← Int.natCast_add]
  exact wrap_u64 _ (by omega) (by omega)
theorem sC_all (x : Nat) (h : x ≤ 7378697629483820646) : sC (x : Int) = (nC x : Nat) := by
  have e3 : ((x : Int) / 16) = ((x / 16 : Nat) : Int) := rfl
  have e4 : (1085102592571150095 : Int) = ((1085102592571150095 : Nat) : Int) := rfl
  rw [sC, e3, ← Int.natCast_add, wrap_u64 _ (by omega) (by omega), e4, u64_and _ _ (by omega) (by omega)]
  rfl
theorem sD_all (k x : Nat) (h : x ≤ 4611686018427387904) : sD (k : Int) (x : Int) = (nD k x : Nat) := by
  have e3 : ((x : Int) / (k : Int)) = ((x / k : Nat) : Int) := rfl
  have hd := Nat.div_le_self x k
  unfold nD
  rw [sD, e3]
  clear e3
  generalize x / k = d at *
  rw [← Int.natCast_add]
  exact wrap_u64 _ (by omega) (by omega)
theorem nAB4_le (x : Nat) : nAB 4 3689348814741910323 x ≤ 7378697629483820646 := by
  have hl : x / 4 &&& 3689348814741910323 ≤ 3689348814741910323 := Nat.and_le_right
  have hl2 : x &&& 3689348814741910323 ≤ 3689348814741910323 := Nat.and_le_right
  unfold nAB
  omega
theorem nC_lt (x : Nat) : nC x ≤ 1085102592571150095 := Nat.and_le_right
theorem pop_full (x : Nat) (h : x < 18446744073709551616) : popX (x : Int) = ((bitsM x).length : Int) := by
  have h1 : nAB 2 6148914691236517205 x ≤ 12297829382473034410 := by
    have hl : x / 2 &&& 6148914691236517205 ≤ 6148914691236517205 := Nat.and_le_right
    have hl2 : x &&& 6148914691236517205 ≤ 6148914691236517205 := Nat.and_le_right
    unfold nAB
    omega
  have h2 := nAB4_le (nAB 2 6148914691236517205 x)
  have h3 := nC_lt (nAB 4 3689348814741910323 (nAB 2 6148914691236517205 x))
  have h4 := nD_le 256 (nC (nAB 4 3689348814741910323 (nAB 2 6148914691236517205 x)))
  have h5 := nD_le 65536 (nD 256 (nC (nAB 4 3689348814741910323 (nAB 2 6148914691236517205 x))))
  have h6 := nD_le 4294967296 (nD 65536 (nD 256 (nC (nAB 4 3689348814741910323 (nAB 2 6148914691236517205 x)))))
  have e5 : ∀ n : Nat, n < 9223372036854775808 → wrap64 (n : Int) = (n : Int) := fun n hn => by unfold wrap64; omega
  have e6 : ∀ n : Nat, n < 9223372036854775808 → bits .and .i64 (n : Int) (127 : Int) = ((n &&& 127 : Nat) : Int) := fun n hn =>
    (bits_nat .i64 63 (by decide) (fun m h0 h1 => IntWalk.i64_in m ⟨by omega, by omega⟩) n 127 (by omega) (by omega)).1
  have q1 := sD_all 256 (nC (nAB 4 3689348814741910323 (nAB 2 6148914691236517205 x))) (by omega)
  have q2 := sD_all 65536 (nD 256 (nC (nAB 4 3689348814741910323 (nAB 2 6148914691236517205 x)))) (by omega)
  have q3 := sD_all 4294967296 (nD 65536 (nD 256 (nC (nAB 4 3689348814741910323 (nAB 2 6148914691236517205 x))))) (by omega)
  have q := popN_len x h
  rw [popX, sA_all x h, sB_all _ (by omega), sC_all _ h2]
  rw [show (256 : Int) = ((256 : Nat) : Int) from rfl, q1, show (65536 : Int) = ((65536 : Nat) : Int) from rfl, q2, show (4294967296 : Int) = ((4294967296 : Nat) : Int) from rfl, q3, e5 _ (by omega), e6 _ (by omega), ← q]
  rfl

set_option maxRecDepth 100000 in
set_option maxHeartbeats 1600000 in
theorem ones64_full (x : Nat) (w : World) (hx : x < 18446744073709551616) :
    Calls Tryd.prog 74 #[.int .u64 (x : Int)] w fun e w' => e = .returned (.int .i64 ((bitsM x).length : Nat)) ∧ w = w' := by
  have H := Lib.hid (pop_full x hx)
  go_enter Tryd.func74, Tryd.ntmps74
  go_wp2
  go_ret
  exact ⟨by rw [← H.out]; rfl, rfl⟩
theorem areaCount_any (x : Nat) (w : World) (hx : x < 18446744073709551616) :
    Calls Tryd.prog 57 #[.int .u64 (x : Int)] w fun e w' => e = .returned (.int .i64 ((bitsM x).length : Nat)) ∧ w = w' := by
  go_enter Tryd.func57, Tryd.ntmps57
  go_wp2_with fail
  refine (ones64_full x _ hx).mono ?_
  rintro e w1 ⟨rfl, rfl⟩
  go_wp2_with fail
  go_ret
  exact ⟨rfl, rfl⟩
end Go.Proofs.YthlbplmghjaeoacDoor

/- Notes: their open cells as a row of structs, by the program; whether notes are sound. -/
namespace Go.Proofs.YthlbplmghjaeoacDoor
open Go.RowKit

/-- A row of open cells: the cell, its rest, its unknown neighbours as a set. -/
def cells3 (L : List (Nat × Int × Nat)) : List Value := L.flatMap fun p => [.int .i64 (p.1 : Int), .int .i64 p.2.1, .int .u64 (p.2.2 : Int)]
theorem cells3_cons (p : Nat × Int × Nat) (L : List (Nat × Int × Nat)) : cells3 (p :: L) = .int .i64 (p.1 : Int) :: .int .i64 p.2.1 :: .int .u64 (p.2.2 : Int) :: cells3 L := rfl
@[simp] theorem cells3_length : ∀ L : List (Nat × Int × Nat), (cells3 L).length = L.length * 3
  | [] => rfl
  | p :: L => by rw [cells3_cons, List.length_cons, List.length_cons, List.length_cons, cells3_length L, List.length_cons]; omega
theorem cells3_append (L M : List (Nat × Int × Nat)) : cells3 (L ++ M) = cells3 L ++ cells3 M := by simp [cells3]
theorem cells3_at : ∀ (L : List (Nat × Int × Nat)) (k : Nat) (h : k < L.length), (cells3 L)[k * 3]? = some (.int .i64 (L[k].1 : Int)) ∧ (cells3 L)[k * 3 + 1]? = some (.int .i64 L[k].2.1) ∧ (cells3 L)[k * 3 + 2]? = some (.int .u64 (L[k].2.2 : Int))
  | p :: L, 0, _ => ⟨rfl, rfl, rfl⟩
  | p :: L, k + 1, h => by
    have ih := cells3_at L k (by simpa using h)
    rw [cells3_cons, show (k + 1) * 3 = k * 3 + 1 + 1 + 1 by omega]
    simpa using ih
theorem cells3_one (L : List (Nat × Int × Nat)) : ∀ u ∈ cells3 L, u.oneCell' = true := by
  intro u hu
  obtain ⟨p, _, h⟩ := List.mem_flatMap.1 hu
  simp at h
  rcases h with rfl | rfl | rfl <;> rfl
def Own3 (w : World) (B : Nat) (v : Value) (L : List (Nat × Int × Nat)) : Prop := w.ownsRow B 51 3 v L.length (cells3 L)
theorem Own3.nil (w : World) (B : Nat) : Own3 w B (.slice none 0 0) [] := World.ownsRow_nil _ _ _ _
theorem Own3.lt {w : World} {B : Nat} {v : Value} {L : List (Nat × Int × Nat)} (h : Own3 w B v L) : ∀ k, v.ownBlock = some k → B ≤ k ∧ k < w.heap.size := World.ownsRow.lt h
theorem Own3.shape {w : World} {B : Nat} {v : Value} {L : List (Nat × Int × Nat)} (h : Own3 w B v L) : ∃ a cap, v = .slice a L.length cap := by
  obtain ⟨h1, h2⟩ := h
  rcases h2 with ⟨hv, hn⟩ | ⟨g, cap, cur, hv, r⟩
  · exact ⟨none, 0, by rw [hv, hn]⟩
  · exact ⟨_, cap, hv⟩
theorem Own3.below {w w' : World} {B : Nat} {v : Value} {L : List (Nat × Int × Nat)} (h : Own3 w B v L) {C : Nat} (hC : ∀ k, v.ownBlock = some k → k < C) (hb : Below C w w') : Own3 w' B v L := by
  obtain ⟨h1, h2⟩ := h
  refine ⟨h1, ?_⟩
  rcases h2 with h2 | ⟨g, cap, cur, hv, hg, hh, r⟩
  · exact .inl h2
  · exact .inr ⟨g, cap, cur, hv, hg, by rw [hb.block g (hC g (by rw [hv]; rfl))]; exact hh, r⟩
theorem Own3.later {w w' : World} {B : Nat} {v : Value} {L : List (Nat × Int × Nat)} (h : Own3 w B v L) (hb : Below w.heap.size w w') : Own3 w' B v L := h.below (fun k hk => (h.lt k hk).2) hb
theorem Own3.mono {w : World} {B B' : Nat} {v : Value} {L : List (Nat × Int × Nat)} (h : Own3 w B v L) (hB : B' ≤ B) : Own3 w B' v L := by
  obtain ⟨h1, h2⟩ := h
  refine ⟨h1, ?_⟩
  rcases h2 with h2 | ⟨g, cap, cur, hv, hg, r⟩
  · exact .inl h2
  · exact .inr ⟨g, cap, cur, hv, by omega, r⟩
theorem Own3.at {w : World} {B : Nat} {a : Option Addr} {n cap : Nat} {L : List (Nat × Int × Nat)} (h : Own3 w B (.slice a n cap) L) (k : Nat) (hk : k < L.length) :
    ∃ g, a = some ⟨g, 0, none⟩ ∧ w.cell? ⟨g, k * 3, none⟩ = some (.int .i64 (L[k].1 : Int)) ∧ w.cell? ⟨g, k * 3 + 1, none⟩ = some (.int .i64 L[k].2.1) ∧ w.cell? ⟨g, k * 3 + 2, none⟩ = some (.int .u64 (L[k].2.2 : Int)) := by
  obtain ⟨c1, c2, c3⟩ := cells3_at L k hk
  have hs := h
  obtain ⟨h1, h2⟩ := h
  rcases h2 with ⟨hv, hn⟩ | ⟨g, cap', cur, hv, r⟩
  · omega
  · obtain ⟨rfl, rfl, rfl⟩ : a = some ⟨g, 0, none⟩ ∧ n = L.length ∧ cap = cap' := by simpa using hv
    refine ⟨g, rfl, ?_, ?_, ?_⟩
    · have := World.ownsRow.cells hs (g := g) rfl _ _ c1
      rw [Addr.add_lit, Nat.zero_add] at this
      exact this
    · have := World.ownsRow.cells hs (g := g) rfl _ _ c2
      rw [Addr.add_lit, Nat.zero_add] at this
      exact this
    · have := World.ownsRow.cells hs (g := g) rfl _ _ c3
      rw [Addr.add_lit, Nat.zero_add] at this
      exact this
theorem info3 : ∃ i, Tryd.prog.info? 51 = some i ∧ i.zero = some (.agg #[.int .i64 0, .int .i64 0, .int .u64 0]) ∧ i.size = 3 ∧ i.bytes = 24 := info_parts (by kernel_rfl)
theorem wpList_app3 {ops : Array Oper} {rest : List Oper} {o : Oper} {a : Act} {Q : Exit → Act → World → Prop} {w : World} (hgd : o.guard = none) (s x : Operand)
    (ho : o.op = .call { callee := .builtin .append, args := #[s, x], argTypes := #[64, 64] })
    (B : Nat) (v : Value) (L : List (Nat × Int × Nat)) (hs : a.eval s = v) (hown : Own3 w B v L) (ad : Addr) (n c : Nat) (M : List (Nat × Int × Nat)) (hx : a.eval x = .slice (some ad) n c) (hn : M.length = n)
    (hM : ∀ j u, (cells3 M)[j]? = some u → w.cell? (ad.add j) = some u) (hlen : L.length + M.length < 1048576) (hB : B ≤ w.heap.size)
    (h : ∀ v' w', Own3 w' B v' (L ++ M) → Below B w w' → wpList Tryd.prog ops Q rest (a.put o.dst v') w') : wpList Tryd.prog ops Q (o :: rest) a w := by
  subst hn
  obtain ⟨i, hi, hz, hsz, hby⟩ := info3
  refine wpList_append_own _ hgd s x _ ho B 51 i _ 3 24 Tryd.underlying64 hi hz hsz hby rfl (by decide) v L.length (cells3 L) hs hown ad M.length c (cells3 M) hx (cells3_length M) hM (cells3_one M) (by unfold maxLen; omega) (by omega) hB ?_
  intro v' w' h1 h2 _
  refine h v' w' ?_ ((Below.refl B w).grown h2 hB (fun k hk => (Own3.lt hown k hk).1))
  unfold Own3
  rw [List.length_append, cells3_append]
  exact h1
theorem one3 (w : World) (p : Nat × Int × Nat) (j : Nat) (u : Value) (h : (cells3 [p])[j]? = some u) : (w.alloc (.cells #[.int .i64 (p.1 : Int), .int .i64 p.2.1, .int .u64 (p.2.2 : Int)] 51)).cell? ((⟨w.heap.size, 0, none⟩ : Addr).add j) = some u := by
  rw [Addr.add_lit, Nat.zero_add, cell_of_block (heap_alloc_new w _)]
  rw [← h]
  simp [cells3]

/-- The open cells of notes, as the program lists them. -/
def opens (cells : List UInt8) : List Nat := (List.range cells.length).filter (opB cells)
def ocT (cells : List UInt8) (W k : Nat) : Nat × Int × Nat := (k, restM cells W k, maskM (nrS cells W k 63))
def opK (cells : List UInt8) (W k : Nat) : List (Nat × Int × Nat) := ((List.range k).filter (opB cells)).map (ocT cells W)
def openL (cells : List UInt8) (W : Nat) : List (Nat × Int × Nat) := (opens cells).map (ocT cells W)
theorem opK_yes {cells : List UInt8} {k : Nat} (W : Nat) (h : opB cells k = true) : opK cells W (k + 1) = opK cells W k ++ [ocT cells W k] := by
  simp [opK, List.range_succ, List.filter_append, h]
theorem opK_no {cells : List UInt8} {k : Nat} (W : Nat) (h : opB cells k = false) : opK cells W (k + 1) = opK cells W k := by
  simp [opK, List.range_succ, List.filter_append, h]
theorem opK_le (cells : List UInt8) (W k : Nat) : (opK cells W k).length ≤ k := by
  rw [opK, List.length_map]
  refine Nat.le_trans (List.length_filter_le _ _) ?_
  rw [List.length_range]
  exact Nat.le_refl _

set_option maxRecDepth 100000 in
set_option maxHeartbeats 3200000 in
theorem openCells_any (W H : Nat) (cells : List UInt8) (w : World) (hW : 0 < cells.length → 1 ≤ W) (hn : cells.length ≤ 64) :
    Calls Tryd.prog 36 #[ntV W H cells] w fun e w' => ∃ a cap, e = .returned (.slice a (openL cells W).length cap) ∧ Own3 w' w.heap.size (.slice a (openL cells W).length cap) (openL cells W) ∧ Below w.heap.size w w' := by
  have HNG := Lib.hid (fun w => ngrid_any W H cells w)
  have HOL : Hid (openL cells W = opK cells W cells.length) := rfl
  unfold ntV at *
  have hb0 : Below w.heap.size w (w.alloc (.cells #[.int .i64 W, .int .i64 H, .string ⟨cells.toArray⟩] 41)) := (Below.refl _ _).alloc (Nat.le_refl _) _
  go_enter Tryd.func36, Tryd.ntmps36
  go_wp2_with fail
  generalize w.alloc (.cells #[.int .i64 W, .int .i64 H, .string ⟨cells.toArray⟩] 41) = w0 at *
  refine (HNG.out _).mono ?_
  rintro e w1 ⟨a, cap, rfl, hown, hb⟩
  have s1 := hb.size
  have s0 := hb0.size
  have hba : Below w1.heap.size w1 (w1.alloc (.cells #[.int .i64 W, .int .i64 H, .slice a cells.length cap, .bool false] 46)) := (Below.refl _ _).alloc (Nat.le_refl _) _
  have hGa : (w1.alloc (.cells #[.int .i64 W, .int .i64 H, .slice a cells.length cap, .bool false] 46)).heap[w1.heap.size]? = some (.cells #[.int .i64 W, .int .i64 H, .slice a cells.length cap, .bool false] 46 (0, 0)) := heap_alloc_new w1 _
  have hsa : w1.heap.size < (w1.alloc (.cells #[.int .i64 W, .int .i64 H, .slice a cells.length cap, .bool false] 46)).heap.size := by simp
  have hat2 := (hown.later hba).at
  have hbw := (hb0.trans (hb.mono s0)).trans (hba.mono (by omega))
  have f0 := cell_of_block hGa 0
  have f1 := cell_of_block hGa 1
  have f2 := cell_of_block hGa 2
  have f3 := cell_of_block hGa 3
  simp at f0 f1 f2 f3
  go_wp2_with fail
  generalize w1.alloc (.cells #[.int .i64 W, .int .i64 H, .slice a cells.length cap, .bool false] 46) = w2 at *
  generalize hGG : w1.heap.size = G at *
  clear hGG hb hba hown f0 f1 f2 f3
  have HG := Lib.hid hGa
  clear hGa
  go_loopw [4, 13] (fun v i wr => ∃ k : Nat, k ≤ cells.length ∧ i = .int .i64 k ∧ Own3 wr w2.heap.size v (opK cells W k) ∧ Below w2.heap.size w2 wr) (fun _ i _ => cells.length - (intOf i).toNat)
  case atStart => exact ⟨0, Nat.zero_le _, rfl, Own3.nil _ _, Below.refl _ _⟩
  case round =>
    obtain ⟨k, hk, rfl, hownr, hbr⟩ := hrel
    have sr := hbr.size
    have hol := opK_le cells W k
    by_cases hlt : k < cells.length
    · have hGr := (hbr.block _ hsa).trans HG.out
      have f0 := cell_of_block hGr 0
      have f1 := cell_of_block hGr 1
      have f2 := cell_of_block hGr 2
      have f3 := cell_of_block hGr 3
      simp at f0 f1 f2 f3
      have hatr := hat2.later rfl hbr
      cases ho : opB cells k with
      | true =>
        have HS := Lib.hid (opK_yes W ho)
        have HA := Lib.hid (openAt_yes W H a cells cap k wr hatr (hW (by omega)) hn hlt ho)
        have HT : Hid (ocT cells W k = (k, restM cells W k, maskM (nrS cells W k 63))) := rfl
        unfold ocV at HA
        generalize restM cells W k = rk at *
        generalize maskM (nrS cells W k 63) = mk at *
        clear ho hatr hGr
        go_wp2_with fail
        refine HA.out.mono ?_
        rintro e w3 ⟨rfl, hb3⟩
        have hba : Below w3.heap.size w3 (w3.alloc (.cells #[.int .i64 k, .int .i64 rk, .int .u64 mk] 51)) := (Below.refl _ _).alloc (Nat.le_refl _) _
        have hown3 := (hownr.later hb3).later hba
        have s3 := hb3.size
        have hbx := (hbr.trans (hb3.mono sr)).trans (hba.mono (by omega))
        have hPa := heap_alloc_new w3 (.cells #[.int .i64 k, .int .i64 rk, .int .u64 mk] 51)
        have p0 := cell_of_block hPa 0
        have p1 := cell_of_block hPa 1
        have p2 := cell_of_block hPa 2
        have p3 := cell_of_block hPa 3
        simp at p0 p1 p2 p3
        have hown4 := hown3.later ((Below.refl _ (w3.alloc (.cells #[.int .i64 k, .int .i64 rk, .int .u64 mk] 51))).alloc (Nat.le_refl _) (.cells #[.int .i64 k, .int .i64 rk, .int .u64 mk] 51))
        have hM4 := one3 (w3.alloc (.cells #[.int .i64 k, .int .i64 rk, .int .u64 mk] 51)) (k, rk, mk)
        rw [show (w3.alloc (.cells #[.int .i64 k, .int .i64 rk, .int .u64 mk] 51)).heap.size = w3.heap.size + 1 by simp] at hM4
        have HBX := Lib.hid (hbx.alloc hbx.size (.cells #[.int .i64 k, .int .i64 rk, .int .u64 mk] 51))
        clear hba hPa hb3 hbx
        go_wp2_with (at_builtin; refine wpList_app3 rfl _ _ rfl w2.heap.size _ _ rfl hown4 _ 1 1 [(k, rk, mk)] rfl rfl hM4 (by simp; omega) (by have := HBX.out.size; omega) ?_; intro v5 w5 hown5 hb5)
        go_roundw
        case rel => exact ⟨k + 1, by omega, by go_num, by rw [HS.out, HT.out]; exact hown5, HBX.out.trans hb5⟩
        case measure => simp [intOf]; omega
      | false =>
        have HS := Lib.hid (opK_no W ho)
        have HA := Lib.hid (openAt_no W H a cells cap k wr hatr hn (by rw [opC]; simp [ho]))
        unfold noC at HA
        clear ho hatr hGr
        go_wp2_with fail
        refine HA.out.mono ?_
        rintro e w3 ⟨rfl, hb3⟩
        have hba : Below w3.heap.size w3 (w3.alloc (.cells #[.int .i64 0, .int .i64 0, .int .u64 0] 51)) := (Below.refl _ _).alloc (Nat.le_refl _) _
        have hown3 := (hownr.later hb3).later hba
        have s3 := hb3.size
        have hbx := (hbr.trans (hb3.mono sr)).trans (hba.mono (by omega))
        go_wp2_with fail
        go_roundw
        case rel => exact ⟨k + 1, by omega, by go_num, by rw [HS.out]; exact hown3, hbx⟩
        case measure => simp [intOf]; omega
    · obtain rfl : k = cells.length := by omega
      go_wp2_with fail
      go_ret
      rw [← HOL.out] at hownr
      obtain ⟨a', cap', hv⟩ := hownr.shape
      exact ⟨a', cap', by rw [← hv]; rfl, by rw [← hv]; exact hownr.mono hbw.size, hbw.trans (hbr.mono hbw.size)⟩
end Go.Proofs.YthlbplmghjaeoacDoor

/- Notes: whether they are sound, by the program. -/
namespace Go.Proofs.YthlbplmghjaeoacDoor
open Go.RowKit

/-- Is the rest of an open cell at least 0 and at most as many as it has unknown neighbours? Are all? -/
def okR (cells : List UInt8) (W k : Nat) : Bool := decide (0 ≤ restM cells W k) && decide (restM cells W k ≤ ((nrS cells W k 63).length : Int))
def soundM (cells : List UInt8) (W : Nat) : Bool := (List.range cells.length).all fun k => !opB cells k || okR cells W k
theorem sound_opens (cells : List UInt8) (W : Nat) : soundM cells W = (opens cells).all (okR cells W) := by
  rw [soundM, opens, List.all_filter]
theorem rest_range (cells : List UInt8) (W k : Nat) (h64 : cells.length ≤ 64) : -100 ≤ restM cells W k ∧ restM cells W k ≤ 300 := by
  have h1 := nrS_le cells W k 42
  have h2 : (cells.getD k 0).toNat < 256 := UInt8.toNat_lt _
  unfold restM
  omega

set_option maxRecDepth 100000 in
set_option maxHeartbeats 3200000 in
theorem isSound_any (W H : Nat) (cells : List UInt8) (w : World) (hW : 0 < cells.length → 1 ≤ W) (hn : cells.length ≤ 64) :
    Calls Tryd.prog 50 #[ntV W H cells] w fun e w' => e = .returned (.bool (soundM cells W)) ∧ Below w.heap.size w w' := by
  rw [sound_opens]
  have HOC := Lib.hid (fun w => openCells_any W H cells w hW hn)
  have HLEN : Hid ((openL cells W).length = (opens cells).length) := by rw [Hid, openL, List.length_map]
  have HGET : Hid (∀ k (h : k < (opens cells).length) (h2 : k < (openL cells W).length), (openL cells W)[k] = ((opens cells)[k], restM cells W (opens cells)[k], maskM (nrS cells W (opens cells)[k] 63))) := by
    intro k h h2
    simp [openL, ocT]
  have hopl : (opens cells).length ≤ 64 := by
    refine Nat.le_trans (List.length_filter_le _ _) ?_
    rw [List.length_range]
    exact hn
  unfold ntV at *
  have hb0 : Below w.heap.size w (w.alloc (.cells #[.int .i64 W, .int .i64 H, .string ⟨cells.toArray⟩] 41)) := (Below.refl _ _).alloc (Nat.le_refl _) _
  go_enter Tryd.func50, Tryd.ntmps50
  go_wp2_with fail
  generalize w.alloc (.cells #[.int .i64 W, .int .i64 H, .string ⟨cells.toArray⟩] 41) = w0 at *
  refine (HOC.out _).mono ?_
  rintro e w1 ⟨a, cap, rfl, hown, hb⟩
  have hbw := hb0.trans (hb.mono hb0.size)
  rw [HLEN.out] at hown ⊢
  clear hb hb0
  generalize openL cells W = OL at *
  generalize hke : opens cells = ks at *
  have HKE := Lib.hid hke
  clear hke
  go_wp2_with fail
  go_loopw [8] (fun i wr => ∃ k : Nat, k ≤ ks.length ∧ i = .int .i64 k ∧ Below w1.heap.size w1 wr ∧ Hid (ks.all (okR cells W) = (ks.drop k).all (okR cells W))) (fun i _ => ks.length - (intOf i).toNat)
  case atStart => exact ⟨0, Nat.zero_le _, rfl, Below.refl _ _, rfl⟩
  case round =>
    obtain ⟨k, hk, rfl, hbr, hR⟩ := hrel
    have sr := hbr.size
    by_cases hlt : k < ks.length
    · have hltO : k < OL.length := by rw [HLEN.out]; exact hlt
      have HD : Hid ((ks.drop k).all (okR cells W) = (okR cells W ks[k] && (ks.drop (k + 1)).all (okR cells W))) := by rw [Hid, List.drop_eq_getElem_cons hlt, List.all_cons]
      obtain ⟨g, hga, c0, c1, c2⟩ := (hown.later hbr).at k hltO
      subst hga
      rw [HGET.out k hlt hltO] at c0 c1 c2
      obtain ⟨hr1, hr2⟩ := rest_range cells W ks[k] hn
      have HM := Lib.hid (nrS_mask (cells := cells) W ks[k] 63 hn)
      have hml := nrS_mlt (cells := cells) W ks[k] 63 hn
      have hnl := nrS_le cells W ks[k] 63
      have HOK : Hid (okR cells W ks[k] = (decide (0 ≤ restM cells W ks[k]) && decide (restM cells W ks[k] ≤ ((nrS cells W ks[k] 63).length : Int)))) := rfl
      generalize ks[k] = x at *
      generalize restM cells W x = rk at *
      generalize nrS cells W x 63 = nk at *
      have hac := fun w => areaCount_any (maskM nk) w hml
      rw [HM.out] at hac
      have HAC := Lib.hid (fun w => (hac w).mono fun e w' h => (show e = .returned (.int .i64 (nk.length : Nat)) ∧ w' = w from ⟨h.1, h.2.symm⟩))
      clear hac
      generalize maskM nk = mk at *
      generalize nk.length = nl at *
      simp only at c0 c1 c2
      have hba : Below wr.heap.size wr (wr.alloc (.cells #[.int .i64 x, .int .i64 rk, .int .u64 mk] 51)) := (Below.refl _ _).alloc (Nat.le_refl _) _
      have hPa := heap_alloc_new wr (.cells #[.int .i64 x, .int .i64 rk, .int .u64 mk] 51)
      have p1 : (wr.alloc (.cells #[.int .i64 x, .int .i64 rk, .int .u64 mk] 51)).cell? ⟨wr.heap.size, 1, none⟩ = some (.int .i64 rk) := by rw [cell_of_block hPa]; rfl
      have p2 : (wr.alloc (.cells #[.int .i64 x, .int .i64 rk, .int .u64 mk] 51)).cell? ⟨wr.heap.size, 2, none⟩ = some (.int .u64 mk) := by rw [cell_of_block hPa]; rfl
      have hbx := Lib.hid (hbr.trans (hba.mono sr))
      clear hba hPa hml HM
      by_cases h1 : rk < 0
      · have HF : Hid (okR cells W x = false) := by rw [Hid, HOK.out]; simp; omega
        have hd : decide (rk < 0) = true := by simpa using h1
        clear HOK
        go_wp2_with fail
        generalize wr.alloc (.cells #[.int .i64 x, .int .i64 rk, .int .u64 mk] 51) = w2 at *
        go_quiet (fail)
        go_wp2_with fail
        go_ret
        exact ⟨by rw [HKE.out, hR.out, HD.out, HF.out]; rfl, below_drewN (hbw.trans (hbx.out.mono hbw.size)) _⟩
      · have hd : decide (rk < 0) = false := by simpa using h1
        by_cases h2 : rk ≤ (nl : Int)
        · have HF : Hid (okR cells W x = true) := by rw [Hid, HOK.out]; simp; omega
          have hd2 : decide (rk > (nl : Int)) = false := by simp; omega
          clear HOK
          go_wp2_with fail
          generalize wr.alloc (.cells #[.int .i64 x, .int .i64 rk, .int .u64 mk] 51) = w2 at *
          go_quiet ((go_at_call 57; refine Calls.quiet_of_same (HAC.out _)))
          have hbq := below_drewN hbx.out nq
          go_wp2_with fail
          go_roundw
          case rel => exact ⟨k + 1, by omega, by go_num, hbq, by rw [Hid, hR.out, HD.out, HF.out]; rfl⟩
          case measure => simp [intOf]; omega
        · have HF : Hid (okR cells W x = false) := by rw [Hid, HOK.out]; simp; omega
          have hd2 : decide (rk > (nl : Int)) = true := by simp; omega
          clear HOK
          go_wp2_with fail
          generalize wr.alloc (.cells #[.int .i64 x, .int .i64 rk, .int .u64 mk] 51) = w2 at *
          go_quiet ((go_at_call 57; refine Calls.quiet_of_same (HAC.out _)))
          go_wp2_with fail
          go_ret
          exact ⟨by rw [HKE.out, hR.out, HD.out, HF.out]; rfl, below_drewN (hbw.trans (hbx.out.mono hbw.size)) _⟩
    · obtain rfl : k = ks.length := by omega
      go_wp2_with fail
      go_ret
      exact ⟨by rw [HKE.out, hR.out, List.drop_length]; rfl, hbw.trans (hbr.mono hbw.size)⟩
end Go.Proofs.YthlbplmghjaeoacDoor
