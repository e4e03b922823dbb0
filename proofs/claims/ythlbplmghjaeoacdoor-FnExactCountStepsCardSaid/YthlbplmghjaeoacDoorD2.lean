/- Notes: FindByRules and CountSteps by the program. -/
import Derived.Test.YthlbplmghjaeoacDoorGCY
import Derived.Test.YthlbplmghjaeoacDoorD1
import Derived.Test.YthlbplmghjaeoacDoorGCV
import Derived.Outline
namespace Go.Proofs.YthlbplmghjaeoacDoor
open Go.RowKit

theorem al_len {W : Nat} {p : Bool} : ∀ (m : Nat) (cells : List UInt8) (n : Nat) (cs : List UInt8) (k : Nat), alM W p m cells n = some (cs, k) → cs.length = cells.length
  | 0, _, _, _, _, h => by simp [alM] at h
  | m + 1, cells, n, cs, k, h => by
    rw [alM] at h
    split at h
    · split at h
      · rw [al_len m _ _ _ _ h, apM_length]
      · obtain ⟨h1, _⟩ := Prod.mk.inj (Option.some.inj h)
        rw [← h1]
    · simp at h
theorem fa_text (l : List UInt8) (p : Bool) : textM (alC (faR l p)) (alD (grW noteSign l) (faR l p)) (alD (grH noteSign l) (faR l p)) = faM l p ∧ (alC (faR l p)).length = alD (grW noteSign l) (faR l p) * alD (grH noteSign l) (faR l p) ∧ ((alD (grW noteSign l) (faR l p) = 0 ∧ alD (grH noteSign l) (faR l p) = 0) ∨ ((1 ≤ alD (grW noteSign l) (faR l p) ∧ alD (grW noteSign l) (faR l p) ≤ 8) ∧ (1 ≤ alD (grH noteSign l) (faR l p) ∧ alD (grH noteSign l) (faR l p) ≤ 8))) := by
  have h1 := grC_len noteSign l
  have h2 := grSize noteSign l
  have h3 : ∀ cs k, faR l p = some (cs, k) → cs.length = (grC noteSign l).length := by
    intro cs k h
    rw [faR] at h
    split at h
    · exact al_len _ _ _ _ _ h
    · cases h
  rw [faM]
  cases hf : faR l p with
  | none => exact ⟨rfl, rfl, .inl ⟨rfl, rfl⟩⟩
  | some q =>
    obtain ⟨cs, k⟩ := q
    exact ⟨rfl, (h3 cs k hf).trans h1, h2⟩

set_option maxRecDepth 100000 in
set_option maxHeartbeats 1600000 in
theorem readFound_any (l : List UInt8) (p : Bool) (w : World) (hM : HasLib w) (hl : l.length ≤ 1048576) :
    Calls Tryd.prog 42 #[.string ⟨l.toArray⟩, .bool p] w fun e w' => e = .returned (.tuple #[ntV (alD (grW noteSign l) (faR l p)) (alD (grH noteSign l) (faR l p)) (alC (faR l p)), .int .i64 (faN l p : Nat), .bool (faB l p)]) ∧ Below w.heap.size w w' := by
  have hr := fun w hM => readNotes_any l w hM hl
  have HFB := Lib.hid (fun w hT => findByRules_any (grW noteSign l) (grH noteSign l) (grC noteSign l) p w hT (grW_pos noteSign l) (grC_le noteSign l))
  have hRn := heap_alloc_new w (.cells #[.int .i64 0, .int .i64 0, .string ⟨#[]⟩] 41)
  have hb0 : Below w.heap.size w (w.alloc (.cells #[.int .i64 0, .int .i64 0, .string ⟨#[]⟩] 41)) := (Below.refl _ _).alloc (Nat.le_refl _) _
  have hs0 : (w.alloc (.cells #[.int .i64 0, .int .i64 0, .string ⟨#[]⟩] 41)).heap.size = w.heap.size + 1 := by simp
  have hM0 := hM.later hb0
  rw [faN, faB]
  cases hg : gridM noteSign l with
  | false =>
    have hR : faR l p = none := by rw [faR, hg]; rfl
    rw [hR, show ntV (alD (grW noteSign l) none) (alD (grH noteSign l) none) (alC none) = .agg #[.int .i64 0, .int .i64 0, .string ⟨#[]⟩] from rfl, show (none : Option (List UInt8 × Nat)).isSome = false from rfl, show ((alN none : Nat) : Int) = 0 from rfl]
    rw [hg] at hr
    clear hg HFB hR
    unfold ntV at hr
    go_enter Tryd.func42, Tryd.ntmps42
    go_wp2_with fail
    generalize w.alloc (.cells #[.int .i64 0, .int .i64 0, .string ⟨#[]⟩] 41) = w0 at *
    refine (hr _ hM0.max).mono ?_
    rintro e w1 ⟨rfl, hb1⟩
    have s1 := hb1.size
    have hb1a := hb1.alloc hb1.size (.cells #[.int .i64 (grW noteSign l), .int .i64 (grH noteSign l), .string ⟨(grC noteSign l).toArray⟩] 41)
    have hR1 := (hb1a.block _ (by omega)).trans hRn
    have r0 := cell_of_block hR1 0
    have r1 := cell_of_block hR1 1
    have r2 := cell_of_block hR1 2
    simp at r0 r1 r2
    have q0 := frozen_of_block hR1 0
    have q1 := frozen_of_block hR1 1
    have q2 := frozen_of_block hR1 2
    have HR := Lib.hid hR1
    have hRlt := block_lt hR1
    have HB := Lib.hid (hb0.trans (hb1a.mono (by omega)))
    clear hR1 hb1a hb1 hRn hr hb0
    go_wp2_with fail
    have b3 := block_set (block_set (block_set HR.out 0 (.int .i64 0)) 1 (.int .i64 0)) 2 (.string ⟨#[]⟩)
    refine bodyPost_ret (v := .tuple #[.agg #[.int .i64 0, .int .i64 0, .string ⟨#[]⟩], .int .i64 0, .bool false]) ?_ rfl ?_
    · have r0 := cell_of_block b3 0
      have r1 := cell_of_block b3 1
      have r2 := cell_of_block b3 2
      simp at r0 r1 r2
      simp [results, Tryd.results42, go_sem, r0, r1, r2]
    · exact ⟨rfl, HB.out.trans (((Below.set 0 _).trans (Below.set 1 _)).trans (Below.set 2 _))⟩
  | true =>
    have hR : faR l p = alM (grW noteSign l) p 65 (grC noteSign l) 0 := by rw [faR, hg]; rfl
    rw [hg] at hr
    rw [← hR] at HFB
    generalize faR l p = R at *
    clear hg hR
    unfold ntV at *
    generalize grW noteSign l = W at *
    generalize grH noteSign l = H at *
    generalize grC noteSign l = cells at *
    go_enter Tryd.func42, Tryd.ntmps42
    go_wp2_with fail
    generalize w.alloc (.cells #[.int .i64 0, .int .i64 0, .string ⟨#[]⟩] 41) = w0 at *
    refine (hr _ hM0.max).mono ?_
    rintro e w1 ⟨rfl, hb1⟩
    have s1 := hb1.size
    have hb1a := hb1.alloc hb1.size (.cells #[.int .i64 W, .int .i64 H, .string ⟨cells.toArray⟩] 41)
    have hN1 := heap_alloc_new w1 (.cells #[.int .i64 W, .int .i64 H, .string ⟨cells.toArray⟩] 41)
    have hR1 := (hb1a.block _ (by omega)).trans hRn
    have HT := Lib.hid (hM0.later hb1a).tab
    have n0 := cell_of_block hN1 0
    have n1 := cell_of_block hN1 1
    have n2 := cell_of_block hN1 2
    simp at n0 n1 n2
    have HR := Lib.hid hR1
    have hRlt := block_lt hR1
    have HB := Lib.hid (hb0.trans (hb1a.mono (by omega)))
    clear hR1 hN1 hb1a hb1 hRn hr hb0
    go_wp2_with fail
    refine (HFB.out _ HT.out).mono ?_
    rintro e w3 ⟨rfl, hb3⟩
    have hR3 := (hb3.block _ hRlt).trans HR.out
    have r0 := cell_of_block hR3 0
    have r1 := cell_of_block hR3 1
    have r2 := cell_of_block hR3 2
    simp at r0 r1 r2
    have q0 := frozen_of_block hR3 0
    have q1 := frozen_of_block hR3 1
    have q2 := frozen_of_block hR3 2
    have HR3 := Lib.hid hR3
    have hRlt3 := block_lt hR3
    have HB3 := Lib.hid (HB.out.trans (hb3.mono HB.out.size))
    clear hR3 hb3
    go_wp2_with fail
    have b3 := block_set (block_set (block_set HR3.out 0 (.int .i64 (alD W R))) 1 (.int .i64 (alD H R))) 2 (.string ⟨(alC R).toArray⟩)
    refine bodyPost_ret (v := .tuple #[.agg #[.int .i64 (alD W R), .int .i64 (alD H R), .string ⟨(alC R).toArray⟩], .int .i64 (alN R), .bool R.isSome]) ?_ rfl ?_
    · have r0 := cell_of_block b3 0
      have r1 := cell_of_block b3 1
      have r2 := cell_of_block b3 2
      simp at r0 r1 r2
      simp [results, Tryd.results42, go_sem, r0, r1, r2]
    · exact ⟨rfl, HB3.out.trans (((Below.set 0 _).trans (Below.set 1 _)).trans (Below.set 2 _))⟩

set_option maxRecDepth 100000 in
set_option maxHeartbeats 1600000 in
theorem iFindByRules_any (l : List UInt8) (p : Bool) (w : World) (hM : HasLib w) (hl : l.length ≤ 1048576) :
    Calls Tryd.prog 21 #[.string ⟨l.toArray⟩, .bool p] w fun e w' => e = .returned (.tuple #[.string ⟨(faM l p).toArray⟩, .bool (faB l p)]) ∧ Below w.heap.size w w' := by
  have HRS := Lib.hid (readFound_any l p w hM hl)
  have HNG := Lib.hid (fun w => ngrid_any (alD (grW noteSign l) (faR l p)) (alD (grH noteSign l) (faR l p)) (alC (faR l p)) w)
  obtain ⟨htx, hcl, hsz⟩ := fa_text l p
  have HTX := Lib.hid (fun a cap w h hc => text_any (alD (grW noteSign l) (faR l p)) (alD (grH noteSign l) (faR l p)) a (alC (faR l p)) cap w h hc hcl hsz)
  rw [htx] at HTX
  unfold ntV at *
  clear htx hcl hsz
  generalize alD (grW noteSign l) (faR l p) = W at *
  generalize alD (grH noteSign l) (faR l p) = H at *
  generalize alC (faR l p) = CS at *
  generalize faM l p = TX at *
  generalize faB l p = OK at *
  generalize faN l p = N at *
  go_enter Tryd.func21, Tryd.ntmps21
  go_wp2_with fail
  refine HRS.out.mono ?_
  rintro e w1 ⟨rfl, hb1⟩
  have hN1 := heap_alloc_new w1 (.cells #[.int .i64 W, .int .i64 H, .string ⟨CS.toArray⟩] 41)
  have HB := Lib.hid (hb1.alloc hb1.size (.cells #[.int .i64 W, .int .i64 H, .string ⟨CS.toArray⟩] 41))
  have n0 := cell_of_block hN1 0
  have n1 := cell_of_block hN1 1
  have n2 := cell_of_block hN1 2
  simp at n0 n1 n2
  clear hN1 hb1
  go_wp2_with fail
  refine (HNG.out _).mono ?_
  rintro e w3 ⟨a3, c3, rfl, hown, hb3⟩
  have HB3 := Lib.hid (HB.out.trans (hb3.mono HB.out.size))
  have HT2 := Lib.hid (HTX.out a3 c3 w3 hown.at hown.cap)
  clear hb3 hown
  go_wp2_with fail
  refine HT2.out.mono ?_
  rintro e w4 ⟨rfl, hb4⟩
  go_wp2_with fail
  go_ret2
  exact ⟨rfl, HB3.out.trans (hb4.mono HB3.out.size)⟩

set_option maxRecDepth 100000 in
set_option maxHeartbeats 1600000 in
theorem iCountSteps_any (l : List UInt8) (p : Bool) (w : World) (hM : HasLib w) (hl : l.length ≤ 1048576) :
    Calls Tryd.prog 23 #[.string ⟨l.toArray⟩, .bool p] w fun e w' => e = .returned (.tuple #[.int .i64 (faN l p : Nat), .bool (faB l p)]) ∧ Below w.heap.size w w' := by
  have HRS := Lib.hid (readFound_any l p w hM hl)
  unfold ntV at *
  generalize alD (grW noteSign l) (faR l p) = W at *
  generalize alD (grH noteSign l) (faR l p) = H at *
  generalize alC (faR l p) = CS at *
  generalize faB l p = OK at *
  generalize faN l p = N at *
  go_enter Tryd.func23, Tryd.ntmps23
  go_wp2_with fail
  refine HRS.out.mono ?_
  rintro e w1 ⟨rfl, hb1⟩
  have HB := Lib.hid (hb1.alloc hb1.size (.cells #[.int .i64 W, .int .i64 H, .string ⟨CS.toArray⟩] 41))
  clear hb1
  go_wp2_with fail
  go_ret2
  exact ⟨rfl, HB.out⟩
end Go.Proofs.YthlbplmghjaeoacDoor
