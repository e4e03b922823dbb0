/- Notes: their open cells as a row of structs, by the program; whether notes are sound. -/
import Derived.Test.YthlbplmghjaeoabDoorCG
import Derived.Test.YthlbplmghjaeoabDoorC9
import Derived.Outline
namespace Go.Proofs.YthlbplmghjaeoabDoor
open Go.RowKit

/-- A row of open cells: the cell, its rest, its unknown neighbours as a set. -/
def cells3 (L : List (Nat × Int × Nat)) : List Value := L.flatMap fun p => [.int .i64 (p.1 : Int), .int .i64 p.2.1, .int .u64 (p.2.2 : Int)]
theorem cells3_cons (p : Nat × Int × Nat) (L : List (Nat × Int × Nat)) : cells3 (p :: L) = .int .i64 (p.1 : Int) :: .int .i64 p.2.1 :: .int .u64 (p.2.2 : Int) :: cells3 L := rfl
@[simp] theorem cells3_length : ∀ L : List (Nat × Int × Nat), (cells3 L).length = L.length * 3
  | [] => rfl
  | p :: L => by rw [cells3_cons, List.length_cons, List.length_cons, List.length_cons, cells3_length L, List.length_cons]; omega
theorem cells3_append (L M : List (Nat × Int × Nat)) : cells3 (L ++ M) = cells3 L ++ cells3 M := by simp [cells3]
theorem cells3_at : ∀ (L : List (Nat × Int × Nat)) (k : Nat) (h : k < L.length), (cells3 L)[k * 3]? = some (.int .i64 (L[k].1 : Int)) ∧ (cells3 L)[k * 3 + 1]? = some (.int .i64 L[k].2.1) ∧ (cells3 L)[k * 3 + 2]? = some (.int .u64 (L[k].2.2 : Int))
  | p :: L, 0, _ => ⟨rfl, rfl, rfl⟩
  | p :: L, k + 1, h => by
    have ih := cells3_at L k (by simpa using h)
    rw [cells3_cons, show (k + 1) * 3 = k * 3 + 1 + 1 + 1 by omega]
    simpa using ih
theorem cells3_one (L : List (Nat × Int × Nat)) : ∀ u ∈ cells3 L, u.oneCell' = true := by
  intro u hu
  obtain ⟨p, _, h⟩ := List.mem_flatMap.1 hu
  simp at h
  rcases h with rfl | rfl | rfl <;> rfl
def Own3 (w : World) (B : Nat) (v : Value) (L : List (Nat × Int × Nat)) : Prop := w.ownsRow B 61 3 v L.length (cells3 L)
theorem Own3.nil (w : World) (B : Nat) : Own3 w B (.slice none 0 0) [] := World.ownsRow_nil _ _ _ _
theorem Own3.lt {w : World} {B : Nat} {v : Value} {L : List (Nat × Int × Nat)} (h : Own3 w B v L) : ∀ k, v.ownBlock = some k → B ≤ k ∧ k < w.heap.size := World.ownsRow.lt h
theorem Own3.shape {w : World} {B : Nat} {v : Value} {L : List (Nat × Int × Nat)} (h : Own3 w B v L) : ∃ a cap, v = .slice a L.length cap := by
  obtain ⟨h1, h2⟩ := h
  rcases h2 with ⟨hv, hn⟩ | ⟨g, cap, cur, hv, r⟩
  · exact ⟨none, 0, by rw [hv, hn]⟩
  · exact ⟨_, cap, hv⟩
theorem Own3.below {w w' : World} {B : Nat} {v : Value} {L : List (Nat × Int × Nat)} (h : Own3 w B v L) {C : Nat} (hC : ∀ k, v.ownBlock = some k → k < C) (hb : Below C w w') : Own3 w' B v L := by
  obtain ⟨h1, h2⟩ := h
  refine ⟨h1, ?_⟩
  rcases h2 with h2 | ⟨g, cap, cur, hv, hg, hh, r⟩
  · exact .inl h2
  · exact .inr ⟨g, cap, cur, hv, hg, by rw [hb.block g (hC g (by rw [hv]; rfl))]; exact hh, r⟩
theorem Own3.later {w w' : World} {B : Nat} {v : Value} {L : List (Nat × Int × Nat)} (h : Own3 w B v L) (hb : Below w.heap.size w w') : Own3 w' B v L := h.below (fun k hk => (h.lt k hk).2) hb
theorem Own3.mono {w : World} {B B' : Nat} {v : Value} {L : List (Nat × Int × Nat)} (h : Own3 w B v L) (hB : B' ≤ B) : Own3 w B' v L := by
  obtain ⟨h1, h2⟩ := h
  refine ⟨h1, ?_⟩
  rcases h2 with h2 | ⟨g, cap, cur, hv, hg, r⟩
  · exact .inl h2
  · exact .inr ⟨g, cap, cur, hv, by omega, r⟩
theorem Own3.at {w : World} {B : Nat} {a : Option Addr} {n cap : Nat} {L : List (Nat × Int × Nat)} (h : Own3 w B (.slice a n cap) L) (k : Nat) (hk : k < L.length) :
    ∃ g, a = some ⟨g, 0, none⟩ ∧ w.cell? ⟨g, k * 3, none⟩ = some (.int .i64 (L[k].1 : Int)) ∧ w.cell? ⟨g, k * 3 + 1, none⟩ = some (.int .i64 L[k].2.1) ∧ w.cell? ⟨g, k * 3 + 2, none⟩ = some (.int .u64 (L[k].2.2 : Int)) := by
  obtain ⟨c1, c2, c3⟩ := cells3_at L k hk
  have hs := h
  obtain ⟨h1, h2⟩ := h
  rcases h2 with ⟨hv, hn⟩ | ⟨g, cap', cur, hv, r⟩
  · omega
  · obtain ⟨rfl, rfl, rfl⟩ : a = some ⟨g, 0, none⟩ ∧ n = L.length ∧ cap = cap' := by simpa using hv
    refine ⟨g, rfl, ?_, ?_, ?_⟩
    · have := World.ownsRow.cells hs (g := g) rfl _ _ c1
      rw [Addr.add_lit, Nat.zero_add] at this
      exact this
    · have := World.ownsRow.cells hs (g := g) rfl _ _ c2
      rw [Addr.add_lit, Nat.zero_add] at this
      exact this
    · have := World.ownsRow.cells hs (g := g) rfl _ _ c3
      rw [Addr.add_lit, Nat.zero_add] at this
      exact this
theorem info3 : ∃ i, Tryd.prog.info? 61 = some i ∧ i.zero = some (.agg #[.int .i64 0, .int .i64 0, .int .u64 0]) ∧ i.size = 3 ∧ i.bytes = 24 := info_parts (by kernel_rfl)
theorem wpList_app3 {ops : Array Oper} {rest : List Oper} {o : Oper} {a : Act} {Q : Exit → Act → World → Prop} {w : World} (hgd : o.guard = none) (s x : Operand)
    (ho : o.op = .call { callee := .builtin .append, args := #[s, x], argTypes := #[100, 100] })
    (B : Nat) (v : Value) (L : List (Nat × Int × Nat)) (hs : a.eval s = v) (hown : Own3 w B v L) (ad : Addr) (n c : Nat) (M : List (Nat × Int × Nat)) (hx : a.eval x = .slice (some ad) n c) (hn : M.length = n)
    (hM : ∀ j u, (cells3 M)[j]? = some u → w.cell? (ad.add j) = some u) (hlen : L.length + M.length < 1048576) (hB : B ≤ w.heap.size)
    (h : ∀ v' w', Own3 w' B v' (L ++ M) → Below B w w' → wpList Tryd.prog ops Q rest (a.put o.dst v') w') : wpList Tryd.prog ops Q (o :: rest) a w := by
  subst hn
  obtain ⟨i, hi, hz, hsz, hby⟩ := info3
  refine wpList_append_own _ hgd s x _ ho B 61 i _ 3 24 Tryd.underlying100 hi hz hsz hby rfl (by decide) v L.length (cells3 L) hs hown ad M.length c (cells3 M) hx (cells3_length M) hM (cells3_one M) (by unfold maxLen; omega) (by omega) hB ?_
  intro v' w' h1 h2 _
  refine h v' w' ?_ ((Below.refl B w).grown h2 hB (fun k hk => (Own3.lt hown k hk).1))
  unfold Own3
  rw [List.length_append, cells3_append]
  exact h1
theorem one3 (w : World) (p : Nat × Int × Nat) (j : Nat) (u : Value) (h : (cells3 [p])[j]? = some u) : (w.alloc (.cells #[.int .i64 (p.1 : Int), .int .i64 p.2.1, .int .u64 (p.2.2 : Int)] 61)).cell? ((⟨w.heap.size, 0, none⟩ : Addr).add j) = some u := by
  rw [Addr.add_lit, Nat.zero_add, cell_of_block (heap_alloc_new w _)]
  rw [← h]
  simp [cells3]

/-- The open cells of notes, as the program lists them. -/
def opens (cells : List UInt8) : List Nat := (List.range cells.length).filter (opB cells)
def ocT (cells : List UInt8) (W k : Nat) : Nat × Int × Nat := (k, restM cells W k, maskM (nrS cells W k 63))
def opK (cells : List UInt8) (W k : Nat) : List (Nat × Int × Nat) := ((List.range k).filter (opB cells)).map (ocT cells W)
def openL (cells : List UInt8) (W : Nat) : List (Nat × Int × Nat) := (opens cells).map (ocT cells W)
theorem opK_yes {cells : List UInt8} {k : Nat} (W : Nat) (h : opB cells k = true) : opK cells W (k + 1) = opK cells W k ++ [ocT cells W k] := by
  simp [opK, List.range_succ, List.filter_append, h]
theorem opK_no {cells : List UInt8} {k : Nat} (W : Nat) (h : opB cells k = false) : opK cells W (k + 1) = opK cells W k := by
  simp [opK, List.range_succ, List.filter_append, h]
theorem opK_le (cells : List UInt8) (W k : Nat) : (opK cells W k).length ≤ k := by
  rw [opK, List.length_map]
  refine Nat.le_trans (List.length_filter_le _ _) ?_
  rw [List.length_range]
  exact Nat.le_refl _

set_option maxRecDepth 100000 in
set_option maxHeartbeats 3200000 in
theorem openCells_any (W H : Nat) (cells : List UInt8) (w : World) (hW : 0 < cells.length → 1 ≤ W) (hn : cells.length ≤ 64) :
    Calls Tryd.prog 82 #[ntV W H cells] w fun e w' => ∃ a cap, e = .returned (.slice a (openL cells W).length cap) ∧ Own3 w' w.heap.size (.slice a (openL cells W).length cap) (openL cells W) ∧ Below w.heap.size w w' := by
  have HNG := Lib.hid (fun w => ngrid_any W H cells w)
  have HOL : Hid (openL cells W = opK cells W cells.length) := rfl
  unfold ntV at *
  have hb0 : Below w.heap.size w (w.alloc (.cells #[.int .i64 W, .int .i64 H, .string ⟨cells.toArray⟩] 44)) := (Below.refl _ _).alloc (Nat.le_refl _) _
  go_enter Tryd.func82, Tryd.ntmps82
  go_wp2_with fail
  generalize w.alloc (.cells #[.int .i64 W, .int .i64 H, .string ⟨cells.toArray⟩] 44) = w0 at *
  refine (HNG.out _).mono ?_
  rintro e w1 ⟨a, cap, rfl, hown, hb⟩
  have s1 := hb.size
  have s0 := hb0.size
  have hba : Below w1.heap.size w1 (w1.alloc (.cells #[.int .i64 W, .int .i64 H, .slice a cells.length cap, .bool false] 53)) := (Below.refl _ _).alloc (Nat.le_refl _) _
  have hGa : (w1.alloc (.cells #[.int .i64 W, .int .i64 H, .slice a cells.length cap, .bool false] 53)).heap[w1.heap.size]? = some (.cells #[.int .i64 W, .int .i64 H, .slice a cells.length cap, .bool false] 53 (0, 0)) := heap_alloc_new w1 _
  have hsa : w1.heap.size < (w1.alloc (.cells #[.int .i64 W, .int .i64 H, .slice a cells.length cap, .bool false] 53)).heap.size := by simp
  have hat2 := (hown.later hba).at
  have hbw := (hb0.trans (hb.mono s0)).trans (hba.mono (by omega))
  have f0 := cell_of_block hGa 0
  have f1 := cell_of_block hGa 1
  have f2 := cell_of_block hGa 2
  have f3 := cell_of_block hGa 3
  simp at f0 f1 f2 f3
  go_wp2_with fail
  generalize w1.alloc (.cells #[.int .i64 W, .int .i64 H, .slice a cells.length cap, .bool false] 53) = w2 at *
  generalize hGG : w1.heap.size = G at *
  clear hGG hb hba hown f0 f1 f2 f3
  have HG := Lib.hid hGa
  clear hGa
  go_loopw [4, 13] (fun v i wr => ∃ k : Nat, k ≤ cells.length ∧ i = .int .i64 k ∧ Own3 wr w2.heap.size v (opK cells W k) ∧ Below w2.heap.size w2 wr) (fun _ i _ => cells.length - (intOf i).toNat)
  case atStart => exact ⟨0, Nat.zero_le _, rfl, Own3.nil _ _, Below.refl _ _⟩
  case round =>
    obtain ⟨k, hk, rfl, hownr, hbr⟩ := hrel
    have sr := hbr.size
    have hol := opK_le cells W k
    by_cases hlt : k < cells.length
    · have hGr := (hbr.block _ hsa).trans HG.out
      have f0 := cell_of_block hGr 0
      have f1 := cell_of_block hGr 1
      have f2 := cell_of_block hGr 2
      have f3 := cell_of_block hGr 3
      simp at f0 f1 f2 f3
      have hatr := hat2.later rfl hbr
      cases ho : opB cells k with
      | true =>
        have HS := Lib.hid (opK_yes W ho)
        have HA := Lib.hid (openAt_yes W H a cells cap k wr hatr (hW (by omega)) hn hlt ho)
        have HT : Hid (ocT cells W k = (k, restM cells W k, maskM (nrS cells W k 63))) := rfl
        unfold ocV at HA
        generalize restM cells W k = rk at *
        generalize maskM (nrS cells W k 63) = mk at *
        clear ho hatr hGr
        go_wp2_with fail
        refine HA.out.mono ?_
        rintro e w3 ⟨rfl, hb3⟩
        have hba : Below w3.heap.size w3 (w3.alloc (.cells #[.int .i64 k, .int .i64 rk, .int .u64 mk] 61)) := (Below.refl _ _).alloc (Nat.le_refl _) _
        have hown3 := (hownr.later hb3).later hba
        have s3 := hb3.size
        have hbx := (hbr.trans (hb3.mono sr)).trans (hba.mono (by omega))
        have hPa := heap_alloc_new w3 (.cells #[.int .i64 k, .int .i64 rk, .int .u64 mk] 61)
        have p0 := cell_of_block hPa 0
        have p1 := cell_of_block hPa 1
        have p2 := cell_of_block hPa 2
        have p3 := cell_of_block hPa 3
        simp at p0 p1 p2 p3
        have hown4 := hown3.later ((Below.refl _ (w3.alloc (.cells #[.int .i64 k, .int .i64 rk, .int .u64 mk] 61))).alloc (Nat.le_refl _) (.cells #[.int .i64 k, .int .i64 rk, .int .u64 mk] 61))
        have hM4 := one3 (w3.alloc (.cells #[.int .i64 k, .int .i64 rk, .int .u64 mk] 61)) (k, rk, mk)
        rw [show (w3.alloc (.cells #[.int .i64 k, .int .i64 rk, .int .u64 mk] 61)).heap.size = w3.heap.size + 1 by simp] at hM4
        have HBX := Lib.hid (hbx.alloc hbx.size (.cells #[.int .i64 k, .int .i64 rk, .int .u64 mk] 61))
        clear hba hPa hb3 hbx
        go_wp2_with (at_builtin; refine wpList_app3 rfl _ _ rfl w2.heap.size _ _ rfl hown4 _ 1 1 [(k, rk, mk)] rfl rfl hM4 (by simp; omega) (by have := HBX.out.size; omega) ?_; intro v5 w5 hown5 hb5)
        go_roundw
        case rel => exact ⟨k + 1, by omega, by go_num, by rw [HS.out, HT.out]; exact hown5, HBX.out.trans hb5⟩
        case measure => simp [intOf]; omega
      | false =>
        have HS := Lib.hid (opK_no W ho)
        have HA := Lib.hid (openAt_no W H a cells cap k wr hatr hn (by rw [opC]; simp [ho]))
        unfold noC at HA
        clear ho hatr hGr
        go_wp2_with fail
        refine HA.out.mono ?_
        rintro e w3 ⟨rfl, hb3⟩
        have hba : Below w3.heap.size w3 (w3.alloc (.cells #[.int .i64 0, .int .i64 0, .int .u64 0] 61)) := (Below.refl _ _).alloc (Nat.le_refl _) _
        have hown3 := (hownr.later hb3).later hba
        have s3 := hb3.size
        have hbx := (hbr.trans (hb3.mono sr)).trans (hba.mono (by omega))
        go_wp2_with fail
        go_roundw
        case rel => exact ⟨k + 1, by omega, by go_num, by rw [HS.out]; exact hown3, hbx⟩
        case measure => simp [intOf]; omega
    · obtain rfl : k = cells.length := by omega
      go_wp2_with fail
      go_ret
      rw [← HOL.out] at hownr
      obtain ⟨a', cap', hv⟩ := hownr.shape
      exact ⟨a', cap', by rw [← hv]; rfl, by rw [← hv]; exact hownr.mono hbw.size, hbw.trans (hbr.mono hbw.size)⟩
end Go.Proofs.YthlbplmghjaeoabDoor
