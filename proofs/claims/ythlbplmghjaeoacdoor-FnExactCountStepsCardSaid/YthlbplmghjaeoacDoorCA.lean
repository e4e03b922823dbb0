/- Notes: signs put in cells, by the program. -/
import Derived.Test.YthlbplmghjaeoacDoorGC6
import Derived.Outline
namespace Go.Proofs.YthlbplmghjaeoacDoor
open Go.RowKit

/-- Cells with a sign put in those of a list; the same told cell by cell. -/
def setAll (cells : List UInt8) (s : UInt8) (xs : List Nat) : List UInt8 := xs.foldl (fun cs k => cs.set k s) cells
def noteL (cells : List UInt8) (xs : List Nat) (s : UInt8) : List UInt8 := (List.range cells.length).map fun i => if i ∈ xs then s else cells.getD i 0
theorem setAll_length (s : UInt8) : ∀ (xs : List Nat) (cells : List UInt8), (setAll cells s xs).length = cells.length
  | [], _ => rfl
  | x :: r, cells => by
    show (setAll (cells.set x s) s r).length = cells.length
    rw [setAll_length s r, List.length_set]
theorem setAll_step (cells : List UInt8) (s : UInt8) (xs : List Nat) (k : Nat) (hk : k < xs.length) : setAll cells s (xs.take (k + 1)) = (setAll cells s (xs.take k)).set xs[k] s := by
  rw [List.take_succ_eq_append_getElem hk, setAll, List.foldl_append]
  rfl
theorem setAll_get (s : UInt8) : ∀ (xs : List Nat) (cells : List UInt8) (i : Nat), i < cells.length → (setAll cells s xs).getD i 0 = if i ∈ xs then s else cells.getD i 0
  | [], _, _, _ => by simp [setAll]
  | x :: r, cells, i, hi => by
    show (setAll (cells.set x s) s r).getD i 0 = _
    rw [setAll_get s r _ i (by rw [List.length_set]; exact hi)]
    by_cases h1 : i ∈ r
    · rw [if_pos h1, if_pos (List.mem_cons_of_mem _ h1)]
    · rw [if_neg h1]
      by_cases h2 : i = x
      · subst h2
        rw [if_pos List.mem_cons_self]
        simp [List.getD, hi]
      · rw [if_neg (by simp [h1, h2])]
        simp only [List.getD, List.getElem?_set_ne (Ne.symm h2)]
theorem noteL_length (cells : List UInt8) (xs : List Nat) (s : UInt8) : (noteL cells xs s).length = cells.length := by simp [noteL]
theorem noteL_get (cells : List UInt8) (xs : List Nat) (s : UInt8) (i : Nat) (hi : i < cells.length) : (noteL cells xs s).getD i 0 = if i ∈ xs then s else cells.getD i 0 := by
  simp [noteL, List.getD, hi]
theorem setAll_note (cells : List UInt8) (xs : List Nat) (s : UInt8) : setAll cells s xs = noteL cells xs s := by
  apply List.ext_getElem
  · rw [setAll_length, noteL_length]
  · intro i h1 h2
    have hi : i < cells.length := by rw [setAll_length] at h1; exact h1
    have e1 := setAll_get s xs cells i hi
    have e2 := noteL_get cells xs s i hi
    have g : ∀ (l : List UInt8) (h : i < l.length), l.getD i 0 = l[i] := fun l h => by simp [List.getD, h]
    rw [g _ h1] at e1
    rw [g _ h2] at e2
    rw [e1, e2]
theorem noteL_signs {p : UInt8 → Bool} {cells : List UInt8} {xs : List Nat} {s : UInt8} (h : ∀ c ∈ cells, p c = true) (hs : p s = true) : ∀ c ∈ noteL cells xs s, p c = true := by
  intro c hc
  obtain ⟨i, hi, rfl⟩ := List.mem_map.1 hc
  split
  · exact hs
  · have hi' : i < cells.length := List.mem_range.1 hi
    have : cells.getD i 0 = cells[i] := by simp [List.getD, hi']
    rw [this]
    exact h _ (List.getElem_mem hi')

/-- What is found, as the program keeps it. -/
def fdV (m f : List Nat) : Value := .agg #[.int .u64 (maskM m : Nat), .int .u64 (maskM f : Nat)]
/-- A list of cells that a set keeps. -/
structure Cel (n : Nat) (xs : List Nat) : Prop where
  rise : xs.Pairwise (· < ·)
  lt : ∀ x ∈ xs, x < n
theorem Cel.nil (n : Nat) : Cel n [] := ⟨List.Pairwise.nil, fun _ hx => by cases hx⟩
theorem Cel.len {n : Nat} {xs : List Nat} (h : Cel n xs) : xs.length ≤ n := by
  refine nodup_le (h.rise.imp fun hab => Nat.ne_of_lt hab) h.lt
theorem Cel.mask {n : Nat} {xs : List Nat} (h : Cel n xs) (hn : n ≤ 64) : bitsM (maskM xs) = xs := bitsM_mask h.rise fun x hx => by have := h.lt x hx; omega
theorem Cel.mlt {n : Nat} {xs : List Nat} (h : Cel n xs) (hn : n ≤ 64) : maskM xs < 18446744073709551616 := maskM_lt _ fun x hx => by have := h.lt x hx; omega
theorem Cel.filter {n : Nat} {xs : List Nat} (h : Cel n xs) (p : Nat → Bool) : Cel n (xs.filter p) := ⟨List.Pairwise.filter _ h.rise, fun x hx => h.lt x (List.mem_filter.1 hx).1⟩
theorem Cel.near (cells : List UInt8) (W c : Nat) (s : UInt8) : Cel cells.length (nrS cells W c s) := ⟨nrS_rise _ _ _ _, fun _ hx => nrS_lt hx⟩
theorem Cel.hid (cells : List UInt8) : Cel cells.length (hidM cells) := ⟨List.Pairwise.filter _ List.pairwise_lt_range, fun _ hx => hidM_lt _ _ hx⟩

set_option maxRecDepth 100000 in
set_option maxHeartbeats 3200000 in
theorem with_any (W H : Nat) (cells : List UInt8) (m f : List Nat) (w : World) (hT : HasTab w) (hn : cells.length ≤ 64) (hm : Cel cells.length m) (hf : Cel cells.length f) :
    Calls Tryd.prog 63 #[ntV W H cells, fdV m f] w fun e w' => e = .returned (ntV W H (noteL (noteL cells m 42) f 46)) ∧ Below w.heap.size w w' := by
  have HNG := Lib.hid (fun w => ngrid_any W H cells w)
  have HNT : Hid (∀ cs : List UInt8, ntV W H cs = .agg #[.int .i64 W, .int .i64 H, .string ⟨cs.toArray⟩]) := fun _ => rfl
  unfold ntV at HNG
  have HCM := Lib.hid (fun w h => areaCells_any (maskM m) w h (hm.mlt hn))
  have HCF := Lib.hid (fun w h => areaCells_any (maskM f) w h (hf.mlt hn))
  rw [hm.mask hn] at HCM
  rw [hf.mask hn] at HCF
  have hml := hm.len
  have hfl := hf.len
  have hmlt := hm.lt
  have hflt := hf.lt
  rw [HNT.out]
  unfold fdV
  clear hm hf
  have hb0 : Below w.heap.size w (w.alloc (.cells #[.int .i64 W, .int .i64 H, .string ⟨cells.toArray⟩] 41)) := (Below.refl _ _).alloc (Nat.le_refl _) _
  have hb1 := hb0.alloc hb0.size (.cells #[.int .u64 (maskM m : Nat), .int .u64 (maskM f : Nat)] 55)
  have hb2 := hb1.alloc hb1.size (.cells #[.int .i64 0, .int .i64 0, .string ⟨#[]⟩] 41)
  have hF1 := heap_alloc_new (w.alloc (.cells #[.int .i64 W, .int .i64 H, .string ⟨cells.toArray⟩] 41)) (.cells #[.int .u64 (maskM m : Nat), .int .u64 (maskM f : Nat)] 55)
  have hR2 := heap_alloc_new ((w.alloc (.cells #[.int .i64 W, .int .i64 H, .string ⟨cells.toArray⟩] 41)).alloc (.cells #[.int .u64 (maskM m : Nat), .int .u64 (maskM f : Nat)] 55)) (.cells #[.int .i64 0, .int .i64 0, .string ⟨#[]⟩] 41)
  have hF2 := (Below.heap_alloc _ (.cells #[.int .i64 0, .int .i64 0, .string ⟨#[]⟩] 41) _ (block_lt hF1)).trans hF1
  have hs2 : (((w.alloc (.cells #[.int .i64 W, .int .i64 H, .string ⟨cells.toArray⟩] 41)).alloc (.cells #[.int .u64 (maskM m : Nat), .int .u64 (maskM f : Nat)] 55)).alloc (.cells #[.int .i64 0, .int .i64 0, .string ⟨#[]⟩] 41)).heap.size = w.heap.size + 3 := by simp
  have e1 : (w.alloc (.cells #[.int .i64 W, .int .i64 H, .string ⟨cells.toArray⟩] 41)).heap.size = w.heap.size + 1 := by simp
  have e2 : ((w.alloc (.cells #[.int .i64 W, .int .i64 H, .string ⟨cells.toArray⟩] 41)).alloc (.cells #[.int .u64 (maskM m : Nat), .int .u64 (maskM f : Nat)] 55)).heap.size = w.heap.size + 2 := by simp
  rw [e1] at hF1 hF2
  rw [e2] at hR2
  clear e1 e2 hF1 hb1 hb0
  go_enter Tryd.func63, Tryd.ntmps63
  go_wp2_with fail
  generalize ((w.alloc (.cells #[.int .i64 W, .int .i64 H, .string ⟨cells.toArray⟩] 41)).alloc (.cells #[.int .u64 (maskM m : Nat), .int .u64 (maskM f : Nat)] 55)).alloc (.cells #[.int .i64 0, .int .i64 0, .string ⟨#[]⟩] 41) = w0 at *
  refine (HNG.out _).mono ?_
  rintro e w1 ⟨a, cap, rfl, hown, hb⟩
  have s1 := hb.size
  have hba : Below w1.heap.size w1 (w1.alloc (.cells #[.int .i64 W, .int .i64 H, .slice a cells.length cap, .bool false] 46)) := (Below.refl _ _).alloc (Nat.le_refl _) _
  have hGa : (w1.alloc (.cells #[.int .i64 W, .int .i64 H, .slice a cells.length cap, .bool false] 46)).heap[w1.heap.size]? = some (.cells #[.int .i64 W, .int .i64 H, .slice a cells.length cap, .bool false] 46 (0, 0)) := heap_alloc_new w1 _
  have hsa : (w1.alloc (.cells #[.int .i64 W, .int .i64 H, .slice a cells.length cap, .bool false] 46)).heap.size = w1.heap.size + 1 := by simp
  have hFa := (hba.block _ (by omega)).trans ((hb.block _ (by omega)).trans hF2)
  have hRa := (hba.block _ (by omega)).trans ((hb.block _ (by omega)).trans hR2)
  have howna := hown.later hba
  obtain ⟨g, rfl, hg1, hg2⟩ := hown.addr
  have hbwa : Below w.heap.size w (w1.alloc (.cells #[.int .i64 W, .int .i64 H, .slice (some ⟨g, 0, none⟩) cells.length cap, .bool false] 46)) := (hb2.trans (hb.mono (by omega))).trans (hba.mono (by omega))
  have f0 := cell_of_block hFa 0
  have f1 := cell_of_block hFa 1
  simp at f0 f1
  go_wp2_with fail
  generalize w1.alloc (.cells #[.int .i64 W, .int .i64 H, .slice (some ⟨g, 0, none⟩) cells.length cap, .bool false] 46) = wa at *
  refine (HCM.out _ (hT.later hbwa)).mono ?_
  rintro e w2 ⟨am, cm, rfl, hownm, hb3⟩
  have s3 := hb3.size
  have sa := hbwa.size
  have hF3 := Lib.hid ((hb3.block _ (by omega)).trans hFa)
  have hR3 := Lib.hid ((hb3.block _ (by omega)).trans hRa)
  have hG3 := Lib.hid ((hb3.block _ (by omega)).trans hGa)
  have hown3 := howna.later hb3
  have hmne := Lib.hid (fun j (hj : (Value.slice am m.length cm).ownBlock = some j) => show j ≠ g by have := (hownm.lt j hj).1; omega)
  have HBW := Lib.hid (hbwa.trans (hb3.mono (by omega)))
  have hl1 : ∀ j, (setAll cells 42 (m.take j)).length = cells.length := fun j => setAll_length _ _ _
  have HL1 := Lib.hid hl1
  have HML := Lib.hid hmlt
  clear hba hb hFa hRa hGa howna hown hF2 hR2 hb2 f0 f1 hbwa hb3 hl1 hmlt
  go_wp2_with fail
  go_loopw [16] (fun i wr => ∃ k : Nat, k ≤ m.length ∧ i = .int .i64 k ∧ OwnB wr w0.heap.size (some ⟨g, 0, none⟩) cap (setAll cells 42 (m.take k)) ∧ Touch g w2 wr) (fun i _ => m.length - (intOf i).toNat)
  case atStart => exact ⟨0, Nat.zero_le _, rfl, by rw [List.take_zero]; exact hown3, Touch.refl _ _⟩
  case round =>
    obtain ⟨k, hk, rfl, hownr, ht⟩ := hrel
    have hGr := (ht.block w1.heap.size (by omega) (by simp; omega)).trans hG3.out
    have hFr := (ht.block (w.heap.size + 1) (by omega) (by simp; omega)).trans hF3.out
    by_cases hlt : k < m.length
    · have hx := HML.out _ (List.getElem_mem hlt)
      have HS := Lib.hid (setAll_step cells 42 m k hlt)
      obtain ⟨b, off, he, hcell⟩ := nats_at ((hownm.touchNe ht hmne.out).at) k hlt
      subst he
      obtain ⟨g', o', he', hcb⟩ := byts_at hownr.at m[k] (by rw [HL1.out]; exact hx)
      simp only [Option.some.injEq, Addr.mk.injEq, and_true] at he'
      obtain ⟨rfl, rfl⟩ := he'
      rw [Nat.zero_add] at hcb
      have hfr := hownr.froz m[k] (by rw [HL1.out]; exact hx)
      have hput := Lib.hid (hownr.put m[k] 42)
      have g0 := cell_of_block hGr 0
      have g1 := cell_of_block hGr 1
      have g2 := cell_of_block hGr 2
      have g3 := cell_of_block hGr 3
      simp at g0 g1 g2 g3
      have hty : Touch g w2 (wr.setCell ⟨g, m[k], none⟩ (.int .u8 42)) := ht.trans ⟨rfl, rfl, rfl, by simp, fun j hj hne => blockAwayV (fun h => hne (by rw [h])) _ _⟩
      have HTY := Lib.hid hty
      clear hGr hFr hownr ht hty
      go_wp2_with fail
      go_roundw
      case rel => exact ⟨k + 1, by omega, by go_num, by rw [HS.out]; exact hput.out, HTY.out⟩
      case measure => simp [intOf]; omega
    · obtain rfl : k = m.length := by omega
      rw [List.take_length] at hownr
      have f0 := cell_of_block hFr 0
      have f1 := cell_of_block hFr 1
      simp at f0 f1
      have sr := ht.size
      have hbr := Lib.hid (HBW.out.trans (ht.below (C := w.heap.size) (by omega) (by omega)))
      have hR4 := Lib.hid ((ht.block _ (by omega) (by simp; omega)).trans hR3.out)
      have HG4 := Lib.hid hGr
      clear hGr hFr ht
      go_wp2_with fail
      refine (HCF.out _ (hT.later hbr.out)).mono ?_
      rintro e w4 ⟨af, cf, rfl, hownf, hb4⟩
      have s4 := hb4.size
      have hlm : (setAll cells 42 m).length = cells.length := setAll_length _ _ _
      have HLM := Lib.hid hlm
      clear hlm
      generalize hcs : setAll cells 42 m = cs at *
      have HCS := Lib.hid hcs
      clear hcs
      have hown4 := hownr.later hb4
      have hG5 := Lib.hid ((hb4.block _ (by omega)).trans HG4.out)
      have hR5 := Lib.hid ((hb4.block _ (by omega)).trans hR4.out)
      have hbr5 := Lib.hid (hbr.out.trans (hb4.mono (by omega)))
      have hfne := Lib.hid (fun j (hj : (Value.slice af f.length cf).ownBlock = some j) => show j ≠ g by have := (hownf.lt j hj).1; omega)
      have HL2 := Lib.hid (fun j => show (setAll cs 46 (f.take j)).length = cells.length by rw [setAll_length, HLM.out])
      have HFL := Lib.hid hflt
      clear hflt hb4 hownr f0 f1
      go_wp2_with fail
      go_loopw [29] (fun i wr => ∃ k : Nat, k ≤ f.length ∧ i = .int .i64 k ∧ OwnB wr w0.heap.size (some ⟨g, 0, none⟩) cap (setAll cs 46 (f.take k)) ∧ Touch g w4 wr) (fun i _ => f.length - (intOf i).toNat)
      case atStart => exact ⟨0, Nat.zero_le _, rfl, by rw [List.take_zero]; exact hown4, Touch.refl _ _⟩
      case round =>
        obtain ⟨k, hk, rfl, hownr, ht⟩ := hrel
        have hGr := (ht.block w1.heap.size (by omega) (by simp; omega)).trans hG5.out
        have g0 := cell_of_block hGr 0
        have g1 := cell_of_block hGr 1
        have g2 := cell_of_block hGr 2
        have g3 := cell_of_block hGr 3
        simp at g0 g1 g2 g3
        by_cases hlt : k < f.length
        · have hx := HFL.out _ (List.getElem_mem hlt)
          have HS := Lib.hid (setAll_step cs 46 f k hlt)
          obtain ⟨b, off, he, hcell⟩ := nats_at ((hownf.touchNe ht hfne.out).at) k hlt
          subst he
          obtain ⟨g', o', he', hcb⟩ := byts_at hownr.at f[k] (by rw [HL2.out]; exact hx)
          simp only [Option.some.injEq, Addr.mk.injEq, and_true] at he'
          obtain ⟨rfl, rfl⟩ := he'
          rw [Nat.zero_add] at hcb
          have hfr := hownr.froz f[k] (by rw [HL2.out]; exact hx)
          have hput := Lib.hid (hownr.put f[k] 46)
          have hty : Touch g w4 (wr.setCell ⟨g, f[k], none⟩ (.int .u8 46)) := ht.trans ⟨rfl, rfl, rfl, by simp, fun j hj hne => blockAwayV (fun h => hne (by rw [h])) _ _⟩
          have HTY := Lib.hid hty
          clear hGr hownr ht hty
          go_wp2_with fail
          go_roundw
          case rel => exact ⟨k + 1, by omega, by go_num, by rw [HS.out]; exact hput.out, HTY.out⟩
          case measure => simp [intOf]; omega
        · obtain rfl : k = f.length := by omega
          rw [List.take_length] at hownr
          have sr := ht.size
          have hlf : (setAll cs 46 f).length = cells.length := by rw [setAll_length, HLM.out]
          have hN := notesOf_any W H (some ⟨g, 0, none⟩) (setAll cs 46 f) cap wr hownr.at
          rw [hlf, HNT.out] at hN
          have HN := Lib.hid hN
          have hbr6 := Lib.hid (hbr5.out.trans (ht.below (C := w.heap.size) (by omega) (by omega)))
          have hR6 := (ht.block _ (by omega) (by simp; omega)).trans hR5.out
          have HR6 := Lib.hid hR6
          have hRlt := block_lt hR6
          clear hN hlf hGr ht hR6 hownr
          go_wp2_with fail
          refine HN.out.mono ?_
          rintro e w6 ⟨rfl, hb6⟩
          have hR7 := (hb6.block _ hRlt).trans HR6.out
          have r0 := cell_of_block hR7 0
          have r1 := cell_of_block hR7 1
          have r2 := cell_of_block hR7 2
          have r3 := cell_of_block hR7 3
          simp at r0 r1 r2 r3
          have q0 := frozen_of_block hR7 0
          have q1 := frozen_of_block hR7 1
          have q2 := frozen_of_block hR7 2
          have q3 := frozen_of_block hR7 3
          have HR7 := Lib.hid hR7
          have hRlt7 := block_lt hR7
          have HB7 := Lib.hid (hbr6.out.trans (hb6.mono (by omega)))
          clear hR7 hb6
          go_wp2_with fail
          have b3 := block_set (block_set (block_set HR7.out 0 (.int .i64 W)) 1 (.int .i64 H)) 2 (.string ⟨(setAll cs 46 f).toArray⟩)
          refine bodyPost_ret (v := .agg #[.int .i64 W, .int .i64 H, .string ⟨(setAll cs 46 f).toArray⟩]) ?_ rfl ?_
          · have r0 := cell_of_block b3 0
            have r1 := cell_of_block b3 1
            have r2 := cell_of_block b3 2
            have r3 := cell_of_block b3 3
            simp at r0 r1 r2 r3
            simp [results, Tryd.results63, go_sem, r0, r1, r2, r3]
          · exact ⟨by rw [HNT.out, ← HCS.out, setAll_note, setAll_note], HB7.out.trans ((((Below.set 0 _).trans (Below.set 1 _)).trans (Below.set 2 _)).mono (by omega))⟩
end Go.Proofs.YthlbplmghjaeoacDoor
