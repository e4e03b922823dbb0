/- Views: a cell hidden again, by the program. -/
import Derived.Test.YtndmkbkmfonefadDoorW5
import Derived.Outline
namespace Go.Proofs.YtndmkbkmfonefadDoor
open Go.RowKit

theorem vSize (l : List UInt8) : (vW l = 0 ∧ vH l = 0) ∨ ((1 ≤ vW l ∧ vW l ≤ 8) ∧ (1 ≤ vH l ∧ vH l ≤ 8)) := by
  unfold vW vH
  split
  · exact grSize _ _
  · exact .inl ⟨rfl, rfl⟩
theorem vC_len (l : List UInt8) : (vC l).length = vW l * vH l := by
  unfold vW vH vC
  split
  · exact grC_len _ _
  · rfl

set_option maxRecDepth 100000 in
set_option maxHeartbeats 1600000 in
theorem iCloseView_any (l : List UInt8) (c : Int) (w : World) (hM : HasMax w) (hl : l.length ≤ 1048576) :
    Calls Tryd.prog 36 #[.string ⟨l.toArray⟩, .int .i64 c] w fun e w' => e = .returned (.tuple #[.string ⟨(clM l c).toArray⟩, .bool (clOK l c)]) ∧ Below w.heap.size w w' := by
  have h64 := vC_le l
  have HN := Lib.hid (vC_len l)
  have hz := vSize l
  have hhc := fun W H a cap w => hasCell_any (J := false) W H a (vC l).length cap c w
  have HVN : Hid ((vNear l).length = (vC l).length) := by simp [Hid, vNear, nearL]
  have hcase : inC (vC l).length c = false ∨ ∃ k : Nat, c = k ∧ k < (vC l).length ∧ inC (vC l).length c = true := by
    by_cases h : 0 ≤ c ∧ c < (vC l).length
    · exact .inr ⟨c.toNat, by omega, by omega, by simp [inC]; omega⟩
    · exact .inl (by simp [inC]; omega)
  rcases hcase with hb | ⟨k, rfl, hk, hb⟩
  · obtain ⟨e1, e2⟩ := cl_out hb
    rw [hb] at hhc
    have HO := Lib.hid e1
    have HT := Lib.hid e2
    clear e1 e2 hb
    go_enter Tryd.func36, Tryd.ntmps36
    go_wp2_with fail
    refine (readView_any l _ hM hl).mono ?_
    rintro e w1 ⟨a, cap, ah, ch, an, cn, rfl, ho1, ho2, ho3, hb1⟩
    have s1 := hb1.size
    go_wp2_with fail
    refine (hhc _ _ _ _ _).mono ?_
    rintro e w2 ⟨rfl, hb2⟩
    go_wp2_with fail
    go_ret2
    exact ⟨by rw [HO.out, HT.out]; rfl, (hb1.alloc s1 _).trans (hb2.mono (by simp; omega))⟩
  · rw [hb] at hhc
    clear hb
    have hun := fun W H a cap w h => isUnseen_any W H a (vC l) cap k w h hk h64
    have HCU := Lib.hid (fun h => cl_uns (l := l) (c := k) h)
    have HCF := Lib.hid (fun h => cl_full (l := l) (c := k) h)
    have HCY := Lib.hid (fun h1 h2 => cl_yes (l := l) hk h1 h2)
    have HHV : Hid (hidV l = hidM (vC l)) := rfl
    generalize clOK l k = ok at *
    generalize clM l k = tx at *
    go_enter Tryd.func36, Tryd.ntmps36
    go_wp2_with fail
    refine (readView_any l _ hM hl).mono ?_
    rintro e w1 ⟨a, cap, ah, ch, an, cn, rfl, ho1, ho2, ho3, hb1⟩
    have s1 := hb1.size
    generalize vW l = W at *
    generalize vH l = H at *
    generalize vNear l = near at *
    generalize viewM l = vok at *
    generalize vC l = cells at *
    generalize hidM cells = hid at *
    have hba : Below w1.heap.size w1 (w1.alloc (.cells #[.int .i64 W, .int .i64 H, .slice a cells.length cap, .bool false, .slice ah hid.length ch, .slice an near.length cn] 68)) := (Below.refl _ _).alloc (Nat.le_refl _) _
    have hSa : (w1.alloc (.cells #[.int .i64 W, .int .i64 H, .slice a cells.length cap, .bool false, .slice ah hid.length ch, .slice an near.length cn] 68)).heap[w1.heap.size]? = some (.cells #[.int .i64 W, .int .i64 H, .slice a cells.length cap, .bool false, .slice ah hid.length ch, .slice an near.length cn] 68 (0, 0)) := heap_alloc_new w1 _
    have hsa : w1.heap.size < (w1.alloc (.cells #[.int .i64 W, .int .i64 H, .slice a cells.length cap, .bool false, .slice ah hid.length ch, .slice an near.length cn] 68)).heap.size := by simp
    have howna := ho1.later hba
    go_wp2_with fail
    generalize w1.alloc (.cells #[.int .i64 W, .int .i64 H, .slice a cells.length cap, .bool false, .slice ah hid.length ch, .slice an near.length cn] 68) = w2 at *
    refine (hhc _ _ _ _ _).mono ?_
    rintro e w3 ⟨rfl, hb3⟩
    have hb23 := hb3
    have hS3 := (hb3.block _ hsa).trans hSa
    have hx0 := cell_of_block hS3 0
    have hx1 := cell_of_block hS3 1
    have hx2 := cell_of_block hS3 2
    have hx3 := cell_of_block hS3 3
    have hx4 := cell_of_block hS3 4
    have hx5 := cell_of_block hS3 5
    simp at hx0 hx1 hx2 hx3 hx4 hx5
    have s3 := hb3.size
    have hown3 := howna.later hb3
    go_wp2_with fail
    refine (hun _ _ _ _ _ hown3.at).mono ?_
    rintro e w4 ⟨rfl, hb4⟩
    have s4 := hb4.size
    have hS4 := (hb4.block _ (by omega)).trans hS3
    have hx0 := cell_of_block hS4 0
    have hx1 := cell_of_block hS4 1
    have hx2 := cell_of_block hS4 2
    have hx3 := cell_of_block hS4 3
    have hx4 := cell_of_block hS4 4
    have hx5 := cell_of_block hS4 5
    simp at hx0 hx1 hx2 hx3 hx4 hx5
    have hown4 := hown3.later hb4
    have hbw : Below w.heap.size w w4 := ((hb1.trans (hba.mono s1)).trans (hb3.mono (by omega))).trans (hb4.mono (by omega))
    have HLT := Lib.hid (fun j hj => (ho1.lt j hj).2)
    have HS4 := Lib.hid hS4
    clear hhc hun hb3 hb4 hba hSa hS3 hS4 hown3 howna ho1 ho2 ho3 hb23
    cases hu : unsB cells k with
    | true =>
      obtain ⟨e1, e2⟩ := HCU.out (by simpa using hu)
      have HO := Lib.hid e1
      have HT := Lib.hid e2
      clear e1 e2 hu
      go_wp2_with fail
      go_ret2
      exact ⟨by rw [HO.out, HT.out]; rfl, hbw⟩
    | false =>
      by_cases hf : hid.length = 14
      · obtain ⟨e1, e2⟩ := HCF.out hf
        have hd : ((hid.length : Int) == 14) = true := by simp [hf]
        have HO := Lib.hid e1
        have HT := Lib.hid e2
        clear e1 e2 hu hf
        go_wp2_with fail
        go_ret2
        exact ⟨by rw [HO.out, HT.out]; rfl, hbw⟩
      · obtain ⟨e1, e2⟩ := HCY.out hu hf
        have hd : ((hid.length : Int) == 14) = false := by simp; omega
        have HO := Lib.hid e1
        have HT := Lib.hid e2
        clear e1 e2 hu hf
        have hcap := hown4.cap
        obtain ⟨g, rfl, hg1, hg2⟩ := hown4.zero (by simp; omega)
        obtain ⟨g', o', he, hcell⟩ := byts_at hown4.at k hk
        simp only [Option.some.injEq, Addr.mk.injEq, and_true] at he
        obtain ⟨rfl, rfl⟩ := he
        rw [Nat.zero_add] at hcell
        have hfr := hown4.froz k
        have hgl : g < w1.heap.size := HLT.out g rfl
        have hS5 := (blockAwayV (show w1.heap.size ≠ g by omega) k (.int .u8 63)).trans HS4.out
        have hy0 := cell_of_block hS5 0
        have hy1 := cell_of_block hS5 1
        have hy2 := cell_of_block hS5 2
        have hy3 := cell_of_block hS5 3
        simp at hy0 hy1 hy2 hy3
        have hst := hown4.put k (.int .u8 ((63 : UInt8).toNat : Int))
        rw [byts_set] at hst
        have ht := text_any W H _ (cells.set k 63) cap _ hst.at (by simpa using hcap) (by simpa using HN.out) hz
        rw [List.length_set] at ht
        have HTX := Lib.hid ht
        have hb5 := hbw.trans ((Below.set (w := w4) (g := g) k (.int .u8 63)).mono hg1)
        clear ht hst hS5
        go_wp2_with fail
        refine HTX.out.mono ?_
        rintro e w5 ⟨rfl, hb6⟩
        go_wp2_with fail
        go_ret2
        exact ⟨by rw [HO.out, HT.out]; rfl, hb5.trans (hb6.mono (by have := hbw.size; simp [World.setCell]; omega))⟩
end Go.Proofs.YtndmkbkmfonefadDoor
