/- Notes: all steps by the rules, by the program: a jump back to a label. -/
import Derived.Test.YthlbplmghjaeoacDoorGCY
import Derived.Test.YthlbplmghjaeoacDoorCU
import Derived.Outline
import Derived.WalkMore
import Derived.ScopeJumps
namespace Go.Proofs.YthlbplmghjaeoacDoor
open Go.RowKit

def alC : Option (List UInt8 × Nat) → List UInt8
  | none => []
  | some (cs, _) => cs
def alD (n : Nat) : Option (List UInt8 × Nat) → Nat
  | none => 0
  | some _ => n

/-- What holds at each jump to the label. -/
def AtLabel (W H : Nat) (cells : List UInt8) (V0 : Value) (p : Bool) (R : Option (List UInt8 × Nat)) (w : World) (a' : Act) (w' : World) : Prop :=
  ∃ (m k : Nat) (cs : List UInt8) (u8 u9 u10 u11 u12 u13 u14 u15 u16 u17 u18 u19 u20 u21 u22 u23 : Value), a' = { tmps := #[V0, .bool p, .pointer (some ⟨w.heap.size, 0, none⟩), undef, .pointer (some ⟨w.heap.size + 1, 0, none⟩), .int .i64 0, .bool false, .int .i64 k, u8, u9, u10, u11, u12, u13, u14, u15, u16, u17, u18, u19, u20, u21, u22, u23], defers := [] } ∧ w'.heap[w.heap.size]? = some (.cells #[.int .i64 W, .int .i64 H, .string ⟨cs.toArray⟩] 41 (0, 0)) ∧ w'.heap[w.heap.size + 1]? = some (.cells #[.int .i64 0, .int .i64 0, .string ⟨#[]⟩] 41 (0, 0)) ∧ Below w.heap.size w w' ∧ k + unk cs ≤ 64 ∧ unk cs < m ∧ cs.length = cells.length ∧ Hid (alM W p m cs k = R)

set_option maxRecDepth 1000000 in
set_option maxHeartbeats 6400000 in
theorem findByRules_any (W H : Nat) (cells : List UInt8) (p : Bool) (w : World) (hT : HasTab w) (hW : 0 < cells.length → 1 ≤ W) (hn : cells.length ≤ 64) :
    Calls Tryd.prog 66 #[ntV W H cells, .bool p] w fun e w' => e = .returned (.tuple #[ntV (alD W (alM W p 65 cells 0)) (alD H (alM W p 65 cells 0)) (alC (alM W p 65 cells 0)), .int .i64 (alN (alM W p 65 cells 0)), .bool (alM W p 65 cells 0).isSome]) ∧ Below w.heap.size w w' := by
  have h64 : unk cells ≤ 64 := Nat.le_trans (unk_le cells) hn
  have HIS : Hid (∀ (cs : List UInt8), cs.length ≤ 64 → (0 < cs.length → 1 ≤ W) → ∀ w, Calls Tryd.prog 50 #[ntV W H cs] w fun e w' => e = .returned (.bool (soundM cs W)) ∧ Below w.heap.size w w') := fun cs h1 h2 w => isSound_any W H cs w h2 h1
  have HST : Hid (∀ (cs : List UInt8), cs.length ≤ 64 → (0 < cs.length → 1 ≤ W) → ∀ w, HasTab w → Calls Tryd.prog 39 #[ntV W H cs, .bool p] w fun e w' => e = .returned (ntV W H (apM cs (stF cs W p))) ∧ Below w.heap.size w w') := fun cs h1 h2 w h => step_any W H cs p w h h2 h1
  generalize hR : alM W p 65 cells 0 = R
  unfold ntV at *
  have fin : ∀ (RW RH k : Nat) (b : Bool) (RS : List UInt8) (we : World) (a : Act) (x0 x1 x2 x3 : Value) (r : List Value), (RW = alD W R ∧ RH = alD H R ∧ RS = alC R ∧ k = alN R ∧ b = R.isSome) → Below w.heap.size w we → we.heap[w.heap.size + 1]? = some (.cells #[.int .i64 RW, .int .i64 RH, .string ⟨RS.toArray⟩] 41 (0, 0)) → a = { tmps := (x0 :: x1 :: x2 :: x3 :: .pointer (some ⟨w.heap.size + 1, 0, none⟩) :: .int .i64 k :: .bool b :: r).toArray, defers := [] } →
      bodyPost Tryd.prog Tryd.f66 (fun e w' => e = .returned (.tuple #[.agg #[.int .i64 (alD W R), .int .i64 (alD H R), .string ⟨(alC R).toArray⟩], .int .i64 (alN R), .bool R.isSome]) ∧ Below w.heap.size w w') .ret a we := by
    rintro RW RH k b RS we a x0 x1 x2 x3 r ⟨h1, h2, h3, h4, h5⟩ hb h6 rfl
    subst h1; subst h2; subst h3; subst h4; subst h5
    have r0 := cell_of_block h6 0
    have r1 := cell_of_block h6 1
    have r2 := cell_of_block h6 2
    simp at r0 r1 r2
    exact bodyPost_ret (v := .tuple #[.agg #[.int .i64 (alD W R), .int .i64 (alD H R), .string ⟨(alC R).toArray⟩], .int .i64 (alN R), .bool R.isSome]) (by simp [results, Tryd.results66, go_sem, r0, r1, r2]) rfl ⟨rfl, hb⟩
  have FIN := Lib.hid fin
  clear fin
  go_enter Tryd.func66, Tryd.ntmps66
  go_wp2
  generalize hV0 : Value.agg #[.int .i64 W, .int .i64 H, .string ⟨cells.toArray⟩] = V0 at *
  have next : ∀ (m k : Nat) (cs : List UInt8) (u8 u9 u10 u11 u12 u13 u14 u15 u16 u17 u18 u19 u20 u21 u22 u23 : Value) (w' : World), w'.heap[w.heap.size]? = some (.cells #[.int .i64 W, .int .i64 H, .string ⟨cs.toArray⟩] 41 (0, 0)) → w'.heap[w.heap.size + 1]? = some (.cells #[.int .i64 0, .int .i64 0, .string ⟨#[]⟩] 41 (0, 0)) → Below w.heap.size w w' → k + unk cs ≤ 64 → unk cs < m → cs.length = cells.length → Hid (alM W p m cs k = R) →
      AtLabel W H cells V0 p R w { tmps := #[V0, .bool p, .pointer (some ⟨w.heap.size, 0, none⟩), undef, .pointer (some ⟨w.heap.size + 1, 0, none⟩), .int .i64 0, .bool false, .int .i64 k, u8, u9, u10, u11, u12, u13, u14, u15, u16, u17, u18, u19, u20, u21, u22, u23], defers := [] } w' :=
    fun m k cs u8 u9 u10 u11 u12 u13 u14 u15 u16 u17 u18 u19 u20 u21 u22 u23 w' h1 h2 h3 h4 h5 h6 h7 => ⟨m, k, cs, u8, u9, u10, u11, u12, u13, u14, u15, u16, u17, u18, u19, u20, u21, u22, u23, rfl, h1, h2, h3, h4, h5, h6, h7⟩
  have NEXT := Lib.hid next
  clear next
  refine wp_scope_jumps 0 (AtLabel W H cells V0 p R w) (fun a' _ => 64 - (intOf (a'.tmps.getD 7 undef)).toNat) rfl ?_ ?_
  · have hb : Below w.heap.size w ((w.alloc (.cells #[.int .i64 W, .int .i64 H, .string ⟨cells.toArray⟩] 41)).alloc (.cells #[.int .i64 0, .int .i64 0, .string ⟨#[]⟩] 41)) := ((Below.refl _ w).alloc (Nat.le_refl _) _).alloc (by simp) _
    have hN := (Below.heap_alloc _ (.cells #[.int .i64 0, .int .i64 0, .string ⟨#[]⟩] 41) _ (block_lt (heap_alloc_new w (.cells #[.int .i64 W, .int .i64 H, .string ⟨cells.toArray⟩] 41)))).trans (heap_alloc_new w (.cells #[.int .i64 W, .int .i64 H, .string ⟨cells.toArray⟩] 41))
    have hRz := heap_alloc_new (w.alloc (.cells #[.int .i64 W, .int .i64 H, .string ⟨cells.toArray⟩] 41)) (.cells #[.int .i64 0, .int .i64 0, .string ⟨#[]⟩] 41)
    rw [show (w.alloc (.cells #[.int .i64 W, .int .i64 H, .string ⟨cells.toArray⟩] 41)).heap.size = w.heap.size + 1 by simp] at hRz
    generalize (w.alloc (.cells #[.int .i64 W, .int .i64 H, .string ⟨cells.toArray⟩] 41)).alloc (.cells #[.int .i64 0, .int .i64 0, .string ⟨#[]⟩] 41) = w0 at *
    obtain ⟨cs, hcs⟩ : ∃ cs, cs = cells := ⟨_, rfl⟩
    obtain ⟨m, hm0⟩ : ∃ m : Nat, m = 65 := ⟨_, rfl⟩
    have hal : Hid (alM W p m cs 0 = R) := by rw [Hid, hm0, hcs]; exact hR
    have hk : 0 + unk cs ≤ 64 := by rw [hcs]; omega
    have hm : unk cs < m := by rw [hcs]; omega
    have HCL : Hid (cs.length = cells.length) := by rw [Hid, hcs]
    rw [← hcs] at hN
    clear hcs
    go_wp2
    go_step3
    have hcl := HCL.out
    have hs := HIS.out cs (by rw [hcl]; exact hn) (by rw [hcl]; exact hW)
    cases hsd : soundM cs W with
    | false =>
      rw [hsd] at hs
      have HB : Hid (R = none) := by rw [Hid, ← hal.out]; exact al_bad hsd
      have HSS := Lib.hid (hs w0)
      have hlN := block_lt hN
      have hlR := block_lt hRz
      have n0 := cell_of_block hN 0
      have n1 := cell_of_block hN 1
      have n2 := cell_of_block hN 2
      simp at n0 n1 n2
      have HRz := Lib.hid hRz
      have HBB := Lib.hid hb
      clear hs hsd hRz hN hb
      go_wp2_with fail
      refine HSS.out.mono ?_
      rintro e w1 ⟨rfl, hb1⟩
      dsimp only
      have hR1 := (hb1.block _ hlR).trans HRz.out
      have r0 := cell_of_block hR1 0
      have r1 := cell_of_block hR1 1
      have r2 := cell_of_block hR1 2
      simp at r0 r1 r2
      have q0 := frozen_of_block hR1 0
      have q1 := frozen_of_block hR1 1
      have q2 := frozen_of_block hR1 2
      have HR1 := Lib.hid hR1
      have HB1 := Lib.hid (HBB.out.trans (hb1.mono HBB.out.size))
      clear hR1 hb1
      go_wp2_with fail
      have b3 := block_set (block_set (block_set HR1.out 0 (.int .i64 0)) 1 (.int .i64 0)) 2 (.string ⟨#[]⟩)
      simp at b3
      exact FIN.out 0 0 0 false [] _ _ _ _ _ _ _ (by rw [HB.out]; exact ⟨rfl, rfl, rfl, rfl, rfl⟩) (HB1.out.trans ((((Below.set 0 _).trans (Below.set 1 _)).trans (Below.set 2 _)).mono (by omega))) b3 rfl
    | true =>
      rw [hsd] at hs
      have HSS := Lib.hid (hs w0)
      have hst := fun w hT => HST.out cs (by rw [hcl]; exact hn) (by rw [hcl]; exact hW) w hT
      have hlN := block_lt hN
      have hlR := block_lt hRz
      have n0 := cell_of_block hN 0
      have n1 := cell_of_block hN 1
      have n2 := cell_of_block hN 2
      simp at n0 n1 n2
      have HN0 := Lib.hid hN
      have HRz := Lib.hid hRz
      have HBB := Lib.hid hb
      clear hs hRz hN hb
      cases hfd : fnd (stF cs W p) with
      | false =>
        have HB : Hid (R = some (cs, 0)) := by rw [Hid, ← hal.out]; exact al_end hm hsd hfd
        rw [apM_same hfd] at hst
        have HSTT := Lib.hid hst
        clear hst hsd hfd
        go_wp2_with fail
        refine HSS.out.mono ?_
        rintro e w1 ⟨rfl, hb1⟩
        dsimp only
        have hN1 := (hb1.block _ hlN).trans HN0.out
        have hR1 := (hb1.block _ hlR).trans HRz.out
        have HB1 := Lib.hid (HBB.out.trans (hb1.mono HBB.out.size))
        have HT1 := Lib.hid (hT.later HB1.out)
        have hlN1 := block_lt hN1
        have hlR1 := block_lt hR1
        have n0 := cell_of_block hN1 0
        have n1 := cell_of_block hN1 1
        have n2 := cell_of_block hN1 2
        simp at n0 n1 n2
        have HN1 := Lib.hid hN1
        have HR1 := Lib.hid hR1
        clear hN1 hR1 hb1
        go_wp2_with fail
        refine (HSTT.out _ HT1.out).mono ?_
        rintro e w2 ⟨rfl, hb2⟩
        dsimp only
        have hN2 := (hb2.block _ hlN1).trans HN1.out
        have hR2 := (hb2.block _ hlR1).trans HR1.out
        have HB2 := Lib.hid (HB1.out.trans (hb2.mono HB1.out.size))
        have hN3 := (Below.heap_alloc w2 (.cells #[.int .i64 W, .int .i64 H, .string ⟨cs.toArray⟩] 41) _ (block_lt hN2)).trans hN2
        have hR3 := (Below.heap_alloc w2 (.cells #[.int .i64 W, .int .i64 H, .string ⟨cs.toArray⟩] 41) _ (block_lt hR2)).trans hR2
        have HB3 := Lib.hid (HB2.out.alloc HB2.out.size (.cells #[.int .i64 W, .int .i64 H, .string ⟨cs.toArray⟩] 41))
        have n0 := cell_of_block hN3 0
        have n1 := cell_of_block hN3 1
        have n2 := cell_of_block hN3 2
        have r0 := cell_of_block hR3 0
        have r1 := cell_of_block hR3 1
        have r2 := cell_of_block hR3 2
        simp at n0 n1 n2 r0 r1 r2
        have q0 := frozen_of_block hR3 0
        have q1 := frozen_of_block hR3 1
        have q2 := frozen_of_block hR3 2
        have HR3 := Lib.hid hR3
        clear hN2 hR2 hN3 hR3 hb2
        go_wp2_with fail
        have b3 := block_set (block_set (block_set HR3.out 0 (.int .i64 W)) 1 (.int .i64 H)) 2 (.string ⟨cs.toArray⟩)
        simp at b3
        exact FIN.out W H 0 true cs _ _ _ _ _ _ _ (by rw [HB.out]; exact ⟨rfl, rfl, rfl, rfl, rfl⟩) (HB3.out.trans ((((Below.set 0 _).trans (Below.set 1 _)).trans (Below.set 2 _)).mono (by omega))) b3 rfl
      | true =>
        obtain ⟨m', _, hm', ha2⟩ := al_go (n := 0) hm hsd hfd
        have hlt := unk_lt hfd
        have HB : Hid (alM W p m' (apM cs (stF cs W p)) (0 + 1) = R) := by rw [Hid, ← ha2]; exact hal.out
        have HL : Hid ((apM cs (stF cs W p)).length = cells.length) := by rw [Hid, apM_length]; exact hcl
        have hne := apM_ne hfd
        have HSTT := Lib.hid hst
        clear hst hsd hfd ha2
        generalize apM cs (stF cs W p) = cs' at *
        have hne2 : ((⟨cs'.toArray⟩ : ByteArray) == ⟨cs.toArray⟩) = false := by rw [beq_toListBytes, ByteArray.toList_eq, ByteArray.toList_eq]; simpa using hne
        have hne1 : (cs' == cs) = false := by simpa using hne
        go_wp2_with fail
        refine HSS.out.mono ?_
        rintro e w1 ⟨rfl, hb1⟩
        dsimp only
        have hN1 := (hb1.block _ hlN).trans HN0.out
        have hR1 := (hb1.block _ hlR).trans HRz.out
        have HB1 := Lib.hid (HBB.out.trans (hb1.mono HBB.out.size))
        have HT1 := Lib.hid (hT.later HB1.out)
        have hlN1 := block_lt hN1
        have hlR1 := block_lt hR1
        have n0 := cell_of_block hN1 0
        have n1 := cell_of_block hN1 1
        have n2 := cell_of_block hN1 2
        simp at n0 n1 n2
        have HN1 := Lib.hid hN1
        have HR1 := Lib.hid hR1
        clear hN1 hR1 hb1
        go_wp2_with fail
        refine (HSTT.out _ HT1.out).mono ?_
        rintro e w2 ⟨rfl, hb2⟩
        dsimp only
        have hN2 := (hb2.block _ hlN1).trans HN1.out
        have hR2 := (hb2.block _ hlR1).trans HR1.out
        have HB2 := Lib.hid (HB1.out.trans (hb2.mono HB1.out.size))
        have hN3 := (Below.heap_alloc w2 (.cells #[.int .i64 W, .int .i64 H, .string ⟨cs'.toArray⟩] 41) _ (block_lt hN2)).trans hN2
        have hR3 := (Below.heap_alloc w2 (.cells #[.int .i64 W, .int .i64 H, .string ⟨cs'.toArray⟩] 41) _ (block_lt hR2)).trans hR2
        have HB3 := Lib.hid (HB2.out.alloc HB2.out.size (.cells #[.int .i64 W, .int .i64 H, .string ⟨cs'.toArray⟩] 41))
        have n0 := cell_of_block hN3 0
        have n1 := cell_of_block hN3 1
        have n2 := cell_of_block hN3 2
        simp at n0 n1 n2
        have q0 := frozen_of_block hN3 0
        have q1 := frozen_of_block hN3 1
        have q2 := frozen_of_block hN3 2
        have HN3 := Lib.hid hN3
        have HR3 := Lib.hid hR3
        clear hN2 hR2 hN3 hR3 hb2
        go_wp2_with fail
        go_step3
        have b3 := block_set (block_set (block_set HN3.out 0 (.int .i64 W)) 1 (.int .i64 H)) 2 (.string ⟨cs'.toArray⟩)
        simp at b3
        exact ⟨rfl, NEXT.out m' (0 + 1) cs' _ _ _ _ _ _ _ _ _ _ _ _ _ _ _ _ ((((w2.alloc (.cells #[.int .i64 W, .int .i64 H, .string ⟨cs'.toArray⟩] 41)).setCell ⟨w.heap.size, 0, none⟩ (.int .i64 W)).setCell ⟨w.heap.size, 1, none⟩ (.int .i64 H)).setCell ⟨w.heap.size, 2, none⟩ (.string ⟨cs'.toArray⟩)) b3 ((blockAwayV (by omega) 2 _).trans ((blockAwayV (by omega) 1 _).trans ((blockAwayV (by omega) 0 _).trans HR3.out))) (HB3.out.trans ((((Below.set 0 _).trans (Below.set 1 _)).trans (Below.set 2 _)).mono (Nat.le_refl _))) (by omega) hm' HL.out HB⟩
  · rintro a' w' ⟨m, k, cs, u8, u9, u10, u11, u12, u13, u14, u15, u16, u17, u18, u19, u20, u21, u22, u23, rfl, hN, hRz, hb, hk, hm, hcl, hal⟩
    have hs := HIS.out cs (by rw [hcl]; exact hn) (by rw [hcl]; exact hW)
    cases hsd : soundM cs W with
    | false =>
      rw [hsd] at hs
      have HB : Hid (R = none) := by rw [Hid, ← hal.out]; exact al_bad hsd
      have HSS := Lib.hid (hs w')
      have hlN := block_lt hN
      have hlR := block_lt hRz
      have n0 := cell_of_block hN 0
      have n1 := cell_of_block hN 1
      have n2 := cell_of_block hN 2
      simp at n0 n1 n2
      have HRz := Lib.hid hRz
      have HBB := Lib.hid hb
      clear hs hsd hRz hN hb
      go_wp2_with fail
      refine HSS.out.mono ?_
      rintro e w1 ⟨rfl, hb1⟩
      dsimp only
      have hR1 := (hb1.block _ hlR).trans HRz.out
      have r0 := cell_of_block hR1 0
      have r1 := cell_of_block hR1 1
      have r2 := cell_of_block hR1 2
      simp at r0 r1 r2
      have q0 := frozen_of_block hR1 0
      have q1 := frozen_of_block hR1 1
      have q2 := frozen_of_block hR1 2
      have HR1 := Lib.hid hR1
      have HB1 := Lib.hid (HBB.out.trans (hb1.mono HBB.out.size))
      clear hR1 hb1
      go_wp2_with fail
      have b3 := block_set (block_set (block_set HR1.out 0 (.int .i64 0)) 1 (.int .i64 0)) 2 (.string ⟨#[]⟩)
      simp at b3
      exact FIN.out 0 0 0 false [] _ _ _ _ _ _ _ (by rw [HB.out]; exact ⟨rfl, rfl, rfl, rfl, rfl⟩) (HB1.out.trans ((((Below.set 0 _).trans (Below.set 1 _)).trans (Below.set 2 _)).mono (by omega))) b3 rfl
    | true =>
      rw [hsd] at hs
      have HSS := Lib.hid (hs w')
      have hst := fun w hT => HST.out cs (by rw [hcl]; exact hn) (by rw [hcl]; exact hW) w hT
      have hlN := block_lt hN
      have hlR := block_lt hRz
      have n0 := cell_of_block hN 0
      have n1 := cell_of_block hN 1
      have n2 := cell_of_block hN 2
      simp at n0 n1 n2
      have HN0 := Lib.hid hN
      have HRz := Lib.hid hRz
      have HBB := Lib.hid hb
      clear hs hRz hN hb
      cases hfd : fnd (stF cs W p) with
      | false =>
        have HB : Hid (R = some (cs, k)) := by rw [Hid, ← hal.out]; exact al_end hm hsd hfd
        rw [apM_same hfd] at hst
        have HSTT := Lib.hid hst
        clear hst hsd hfd
        go_wp2_with fail
        refine HSS.out.mono ?_
        rintro e w1 ⟨rfl, hb1⟩
        dsimp only
        have hN1 := (hb1.block _ hlN).trans HN0.out
        have hR1 := (hb1.block _ hlR).trans HRz.out
        have HB1 := Lib.hid (HBB.out.trans (hb1.mono HBB.out.size))
        have HT1 := Lib.hid (hT.later HB1.out)
        have hlN1 := block_lt hN1
        have hlR1 := block_lt hR1
        have n0 := cell_of_block hN1 0
        have n1 := cell_of_block hN1 1
        have n2 := cell_of_block hN1 2
        simp at n0 n1 n2
        have HN1 := Lib.hid hN1
        have HR1 := Lib.hid hR1
        clear hN1 hR1 hb1
        go_wp2_with fail
        refine (HSTT.out _ HT1.out).mono ?_
        rintro e w2 ⟨rfl, hb2⟩
        dsimp only
        have hN2 := (hb2.block _ hlN1).trans HN1.out
        have hR2 := (hb2.block _ hlR1).trans HR1.out
        have HB2 := Lib.hid (HB1.out.trans (hb2.mono HB1.out.size))
        have hN3 := (Below.heap_alloc w2 (.cells #[.int .i64 W, .int .i64 H, .string ⟨cs.toArray⟩] 41) _ (block_lt hN2)).trans hN2
        have hR3 := (Below.heap_alloc w2 (.cells #[.int .i64 W, .int .i64 H, .string ⟨cs.toArray⟩] 41) _ (block_lt hR2)).trans hR2
        have HB3 := Lib.hid (HB2.out.alloc HB2.out.size (.cells #[.int .i64 W, .int .i64 H, .string ⟨cs.toArray⟩] 41))
        have n0 := cell_of_block hN3 0
        have n1 := cell_of_block hN3 1
        have n2 := cell_of_block hN3 2
        have r0 := cell_of_block hR3 0
        have r1 := cell_of_block hR3 1
        have r2 := cell_of_block hR3 2
        simp at n0 n1 n2 r0 r1 r2
        have q0 := frozen_of_block hR3 0
        have q1 := frozen_of_block hR3 1
        have q2 := frozen_of_block hR3 2
        have HR3 := Lib.hid hR3
        clear hN2 hR2 hN3 hR3 hb2
        go_wp2_with fail
        have b3 := block_set (block_set (block_set HR3.out 0 (.int .i64 W)) 1 (.int .i64 H)) 2 (.string ⟨cs.toArray⟩)
        simp at b3
        exact FIN.out W H k true cs _ _ _ _ _ _ _ (by rw [HB.out]; exact ⟨rfl, rfl, rfl, rfl, rfl⟩) (HB3.out.trans ((((Below.set 0 _).trans (Below.set 1 _)).trans (Below.set 2 _)).mono (by omega))) b3 rfl
      | true =>
        obtain ⟨m', _, hm', ha2⟩ := al_go (n := k) hm hsd hfd
        have hlt := unk_lt hfd
        have HB : Hid (alM W p m' (apM cs (stF cs W p)) (k + 1) = R) := by rw [Hid, ← ha2]; exact hal.out
        have HL : Hid ((apM cs (stF cs W p)).length = cells.length) := by rw [Hid, apM_length]; exact hcl
        have hne := apM_ne hfd
        have HSTT := Lib.hid hst
        clear hst hsd hfd ha2
        generalize apM cs (stF cs W p) = cs' at *
        have hne2 : ((⟨cs'.toArray⟩ : ByteArray) == ⟨cs.toArray⟩) = false := by rw [beq_toListBytes, ByteArray.toList_eq, ByteArray.toList_eq]; simpa using hne
        have hne1 : (cs' == cs) = false := by simpa using hne
        go_wp2_with fail
        refine HSS.out.mono ?_
        rintro e w1 ⟨rfl, hb1⟩
        dsimp only
        have hN1 := (hb1.block _ hlN).trans HN0.out
        have hR1 := (hb1.block _ hlR).trans HRz.out
        have HB1 := Lib.hid (HBB.out.trans (hb1.mono HBB.out.size))
        have HT1 := Lib.hid (hT.later HB1.out)
        have hlN1 := block_lt hN1
        have hlR1 := block_lt hR1
        have n0 := cell_of_block hN1 0
        have n1 := cell_of_block hN1 1
        have n2 := cell_of_block hN1 2
        simp at n0 n1 n2
        have HN1 := Lib.hid hN1
        have HR1 := Lib.hid hR1
        clear hN1 hR1 hb1
        go_wp2_with fail
        refine (HSTT.out _ HT1.out).mono ?_
        rintro e w2 ⟨rfl, hb2⟩
        dsimp only
        have hN2 := (hb2.block _ hlN1).trans HN1.out
        have hR2 := (hb2.block _ hlR1).trans HR1.out
        have HB2 := Lib.hid (HB1.out.trans (hb2.mono HB1.out.size))
        have hN3 := (Below.heap_alloc w2 (.cells #[.int .i64 W, .int .i64 H, .string ⟨cs'.toArray⟩] 41) _ (block_lt hN2)).trans hN2
        have hR3 := (Below.heap_alloc w2 (.cells #[.int .i64 W, .int .i64 H, .string ⟨cs'.toArray⟩] 41) _ (block_lt hR2)).trans hR2
        have HB3 := Lib.hid (HB2.out.alloc HB2.out.size (.cells #[.int .i64 W, .int .i64 H, .string ⟨cs'.toArray⟩] 41))
        have n0 := cell_of_block hN3 0
        have n1 := cell_of_block hN3 1
        have n2 := cell_of_block hN3 2
        simp at n0 n1 n2
        have q0 := frozen_of_block hN3 0
        have q1 := frozen_of_block hN3 1
        have q2 := frozen_of_block hN3 2
        have HN3 := Lib.hid hN3
        have HR3 := Lib.hid hR3
        clear hN2 hR2 hN3 hR3 hb2
        go_wp2_with fail
        go_step3
        have b3 := block_set (block_set (block_set HN3.out 0 (.int .i64 W)) 1 (.int .i64 H)) 2 (.string ⟨cs'.toArray⟩)
        simp at b3
        have ek : ((k : Int) + 1) = ((k + 1 : Nat) : Int) := by simp
        try rw [ek]
        refine ⟨rfl, NEXT.out m' (k + 1) cs' _ _ _ _ _ _ _ _ _ _ _ _ _ _ _ _ ((((w2.alloc (.cells #[.int .i64 W, .int .i64 H, .string ⟨cs'.toArray⟩] 41)).setCell ⟨w.heap.size, 0, none⟩ (.int .i64 W)).setCell ⟨w.heap.size, 1, none⟩ (.int .i64 H)).setCell ⟨w.heap.size, 2, none⟩ (.string ⟨cs'.toArray⟩)) b3 ((blockAwayV (by omega) 2 _).trans ((blockAwayV (by omega) 1 _).trans ((blockAwayV (by omega) 0 _).trans HR3.out))) (HB3.out.trans ((((Below.set 0 _).trans (Below.set 1 _)).trans (Below.set 2 _)).mono (Nat.le_refl _))) (by omega) hm' HL.out HB, ?_⟩
        simp [intOf]
        omega
end Go.Proofs.YthlbplmghjaeoacDoor
