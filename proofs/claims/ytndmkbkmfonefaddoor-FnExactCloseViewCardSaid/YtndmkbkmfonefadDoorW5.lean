/- Views: texts of rows, and a cell hidden again, by the program and by the model. -/
import Derived.Test.YtndmkbkmfonefadDoorW4
import Derived.Test.YtndmkbkmfonefadDoorT5
import Derived.Test.YtndmkbkmfonefadDoorW0
import Derived.Outline
namespace Go.Proofs.YtndmkbkmfonefadDoor
open Go.RowKit

theorem view_ne47 {c : UInt8} (h : viewSign c = true) : c ≠ 47 := by
  intro q
  subst q
  revert h
  decide
theorem view_text {cells : List UInt8} {W H : Nat} (hW : 1 ≤ W ∧ W ≤ 8) (hH : 1 ≤ H ∧ H ≤ 8) (hn : cells.length = W * H) (hp : ∀ c ∈ cells, viewSign c = true) :
    viewM (textM cells W H) = decide ((hidM cells).length ≤ 14) := by
  obtain ⟨h1, h2, _⟩ := text_grid (p := viewSign) hW hH hn hp (fun c hc => view_ne47 (hp c hc))
  rw [viewM, h1, h2, hid_places, Bool.true_and]
theorem hid_count (cells : List UInt8) : (hidM cells).length = cells.count 63 := by
  rw [← hid_places, places, placesGo_cnt]
theorem Grd.view {l : List UInt8} (h : viewM l = true) : Grd l (vW l) (vH l) (vC l) ∧ (∀ c ∈ vC l, viewSign c = true) := by
  obtain ⟨h1, h2, _⟩ := view_yes h
  have h3 := Grd.of h1
  rw [vW, vH, if_pos h, if_pos h]
  refine ⟨by rw [vC, if_pos h]; exact h3, ?_⟩
  rw [h2]
  obtain ⟨_, _, _, _, _, _, _, f⟩ := grid_facts h1
  exact List.all_eq_true.1 f

/-- Whether a cell may be hidden again; the view then. -/
def clOK (l : List UInt8) (c : Int) : Bool := inC (vC l).length c && !unsB (vC l) c.toNat && !decide ((hidM (vC l)).length = 14)
def clM (l : List UInt8) (c : Int) : List UInt8 := if clOK l c = true then textM ((vC l).set c.toNat 63) (vW l) (vH l) else []
theorem inB_inC (n : Nat) (c : Int) : inB c 0 ((n : Int) - 1) = inC n c := by
  simp only [inB, inC]
  congr 1
  exact decide_eq_decide.2 (by omega)
theorem cl_out {l : List UInt8} {c : Int} (h : inC (vC l).length c = false) : clOK l c = false ∧ clM l c = [] := by
  have e : clOK l c = false := by rw [clOK, h]; rfl
  exact ⟨e, by rw [clM, e]; rfl⟩
theorem cl_uns {l : List UInt8} {c : Int} (h : unsB (vC l) c.toNat = true) : clOK l c = false ∧ clM l c = [] := by
  have e : clOK l c = false := by rw [clOK, h]; simp
  exact ⟨e, by rw [clM, e]; rfl⟩
theorem cl_full {l : List UInt8} {c : Int} (h : (hidM (vC l)).length = 14) : clOK l c = false ∧ clM l c = [] := by
  have e : clOK l c = false := by rw [clOK, h]; simp
  exact ⟨e, by rw [clM, e]; rfl⟩
theorem cl_yes {l : List UInt8} {k : Nat} (h1 : k < (vC l).length) (h2 : unsB (vC l) k = false) (h3 : (hidM (vC l)).length ≠ 14) : clOK l k = true ∧ clM l k = textM ((vC l).set k 63) (vW l) (vH l) := by
  have e : clOK l k = true := by simp [clOK, inC, h1, h2, h3]
  exact ⟨e, by rw [clM, e]; rfl⟩
theorem set_count {cells : List UInt8} {k : Nat} (hk : k < cells.length) (h : unsB cells k = false) : (hidM (cells.set k 63)).length = (hidM cells).length + 1 := by
  rw [hid_count, hid_count, List.count_set hk]
  have : (cells[k] == 63) = false := by simpa [unsB, List.getD, hk] using h
  simp [this]
theorem set_signs {cells : List UInt8} (k : Nat) (h : ∀ c ∈ cells, viewSign c = true) : ∀ c ∈ cells.set k 63, viewSign c = true := by
  intro c hc
  rcases List.mem_or_eq_of_mem_set hc with h1 | h1
  · exact h c h1
  · rw [h1]; rfl

set_option maxRecDepth 100000 in
set_option maxHeartbeats 800000 in
theorem viHidden_any (l : List UInt8) (c : Int) (w : World) (hl : l.length ≤ 1048576) :
    Calls Tryd.prog 63 #[.string ⟨l.toArray⟩, .int .i64 c] w fun e w' => e = .returned (.bool (inC (cellsM l).length c && unsB (cellsM l) c.toNat)) ∧ w = w' := by
  have hcl := cellsM_le l
  have hin : ∀ w, Calls Tryd.prog 70 #[.int .i64 c, .int .i64 0, .int .i64 (((cellsM l).length : Int) - 1)] w fun e w' => e = .returned (.bool (inC (cellsM l).length c)) ∧ w = w' := fun w => by
    rw [← inB_inC]; exact l1In_any _ _ _ _
  by_cases h : 0 ≤ c ∧ c < (cellsM l).length
  · obtain ⟨k, rfl⟩ : ∃ k : Nat, c = k := ⟨c.toNat, by omega⟩
    have hk : k < (cellsM l).length := by omega
    have hb : inC (cellsM l).length (k : Int) = true := by simp [inC]; omega
    have HU := Lib.hid (show (inC (cellsM l).length (k : Int) && unsB (cellsM l) (k : Int).toNat) = (((cellsM l)[k].toNat : Int) == 63) by rw [hb, show ((63 : Int)) = ((63 : Nat) : Int) from rfl, byte_beq (cellsM l)[k] 63 (by omega)]; simp [unsB, List.getD, hk])
    rw [hb] at hin
    clear h hb
    go_enter Tryd.func63, Tryd.ntmps63
    go_wp2_with fail
    refine (boCells_any l _ hl).mono ?_
    rintro e w1 ⟨rfl, rfl⟩
    generalize hcc : cellsM l = cells at *
    have HCC := Lib.hid hcc
    clear hcc
    go_wp2_with (go_at_call 70; refine (hin _).mono ?_; rintro e w' ⟨rfl, rfl⟩)
    go_ret
    exact ⟨by rw [HCC.out, HU.out]; rfl, rfl⟩
  · have hb : inC (cellsM l).length c = false := by simp [inC]; omega
    have HU := Lib.hid (show (inC (cellsM l).length c && unsB (cellsM l) c.toNat) = false by rw [hb]; rfl)
    rw [hb] at hin
    clear h hb
    go_enter Tryd.func63, Tryd.ntmps63
    go_wp2_with fail
    refine (boCells_any l _ hl).mono ?_
    rintro e w1 ⟨rfl, rfl⟩
    generalize hcc : cellsM l = cells at *
    have HCC := Lib.hid hcc
    clear hcc
    go_wp2_with (go_at_call 70; refine (hin _).mono ?_; rintro e w' ⟨rfl, rfl⟩)
    go_ret
    exact ⟨by rw [HCC.out, HU.out]; rfl, rfl⟩

set_option maxRecDepth 100000 in
set_option maxHeartbeats 1600000 in
theorem sCloseView_any (l : List UInt8) (c : Int) (w : World) (hl : l.length ≤ 1048576) :
    Calls Tryd.prog 35 #[.string ⟨l.toArray⟩, .int .i64 c] w fun e w' => e = .returned (.tuple #[.string ⟨(clM l c).toArray⟩, .bool (clOK l c)]) ∧ Below w.heap.size w w' := by
  have h1 := fun w => viGood_any l w hl
  have hcl := cellsM_le l
  cases hv : viewM l with
  | false =>
    rw [hv] at h1
    obtain ⟨e1, e2⟩ := cl_out (l := l) (c := c) (by rw [vC_none hv]; simp [inC])
    have HO := Lib.hid e1
    have HT := Lib.hid e2
    clear e1 e2 hv
    go_enter Tryd.func35, Tryd.ntmps35
    go_wp2_with (go_at_call 53; refine (h1 _).mono ?_; rintro e w1 ⟨rfl, hb⟩)
    go_ret2
    exact ⟨by rw [HO.out, HT.out]; rfl, hb⟩
  | true =>
    rw [hv] at h1
    obtain ⟨hG, hsg⟩ := Grd.view hv
    obtain ⟨_, hvc, h14⟩ := view_yes hv
    have hin : ∀ w, Calls Tryd.prog 70 #[.int .i64 c, .int .i64 0, .int .i64 (((cellsM l).length : Int) - 1)] w fun e w' => e = .returned (.bool (inC (vC l).length c)) ∧ w = w' := fun w => by
      rw [hvc, ← inB_inC]; exact l1In_any _ _ _ _
    have hvh := fun w => viHidden_any l c w hl
    rw [← hvc] at hvh h14
    by_cases h : 0 ≤ c ∧ c < (vC l).length
    · obtain ⟨k, rfl⟩ : ∃ k : Nat, c = k := ⟨c.toNat, by omega⟩
      have hk : k < (vC l).length := by omega
      have hb : inC (vC l).length (k : Int) = true := by simp [inC]; omega
      rw [hb] at hin hvh
      rw [Bool.true_and, Int.toNat_natCast] at hvh
      clear h hb
      cases hu : unsB (vC l) k with
      | true =>
        rw [hu] at hvh
        obtain ⟨e1, e2⟩ := cl_uns (l := l) (c := k) (by simpa using hu)
        have HO := Lib.hid e1
        have HT := Lib.hid e2
        clear e1 e2 hu hG hsg hvc
        go_enter Tryd.func35, Tryd.ntmps35
        go_wp2_with fail
        refine (h1 _).mono ?_
        rintro e w1 ⟨rfl, hb⟩
        go_wp2_with fail
        refine (boCells_any l _ hl).mono ?_
        rintro e w' ⟨rfl, rfl⟩
        go_wp2_with fail
        refine (hin _).mono ?_
        rintro e w' ⟨rfl, rfl⟩
        go_wp2_with fail
        refine (hvh _).mono ?_
        rintro e w' ⟨rfl, rfl⟩
        go_wp2_with fail
        go_ret2
        exact ⟨by rw [HO.out, HT.out]; rfl, hb⟩
      | false =>
        rw [hu] at hvh
        have hput := fun w => boPut_any l (vW l) (vH l) (vC l) k 63 w hl hG hk
        have hgt := view_text (cells := (vC l).set k 63) ⟨hG.w1, hG.w8⟩ ⟨hG.h1, hG.h8⟩ (by simpa using hG.len) (set_signs k hsg)
        have htl := textM_le ((vC l).set k 63) (vW l) (vH l) hG.w8 hG.h8
        rw [set_count hk hu] at hgt
        by_cases hf : (hidM (vC l)).length = 14
        · obtain ⟨e1, e2⟩ := cl_full (l := l) (c := k) hf
          have HO := Lib.hid e1
          have HT := Lib.hid e2
          rw [hf] at hgt
          have hg2 := fun w => viGood_any (textM ((vC l).set k 63) (vW l) (vH l)) w (by omega)
          rw [hgt] at hg2
          clear e1 e2 hu hG hsg hvc hf hgt
          generalize textM ((vC l).set k 63) (vW l) (vH l) = tx at *
          go_enter Tryd.func35, Tryd.ntmps35
          go_wp2_with fail
          refine (h1 _).mono ?_
          rintro e w1 ⟨rfl, hb⟩
          go_wp2_with fail
          refine (boCells_any l _ hl).mono ?_
          rintro e w' ⟨rfl, rfl⟩
          go_wp2_with fail
          refine (hin _).mono ?_
          rintro e w' ⟨rfl, rfl⟩
          go_wp2_with fail
          refine (hvh _).mono ?_
          rintro e w' ⟨rfl, rfl⟩
          go_wp2_with fail
          refine (hput _).mono ?_
          rintro e w2 ⟨rfl, hb2⟩
          go_wp2_with fail
          refine (hg2 _).mono ?_
          rintro e w3 ⟨rfl, hb3⟩
          go_wp2_with fail
          go_ret2
          exact ⟨by rw [HO.out, HT.out]; rfl, (hb.trans (hb2.mono hb.size)).trans (hb3.mono (by have := hb.size; have := hb2.size; omega))⟩
        · obtain ⟨e1, e2⟩ := cl_yes hk hu hf
          have HO := Lib.hid e1
          have HT := Lib.hid e2
          rw [show decide ((hidM (vC l)).length + 1 ≤ 14) = true by simp; omega] at hgt
          have hg2 := fun w => viGood_any (textM ((vC l).set k 63) (vW l) (vH l)) w (by omega)
          rw [hgt] at hg2
          clear e1 e2 hu hG hsg hvc hf hgt
          generalize textM ((vC l).set k 63) (vW l) (vH l) = tx at *
          go_enter Tryd.func35, Tryd.ntmps35
          go_wp2_with fail
          refine (h1 _).mono ?_
          rintro e w1 ⟨rfl, hb⟩
          go_wp2_with fail
          refine (boCells_any l _ hl).mono ?_
          rintro e w' ⟨rfl, rfl⟩
          go_wp2_with fail
          refine (hin _).mono ?_
          rintro e w' ⟨rfl, rfl⟩
          go_wp2_with fail
          refine (hvh _).mono ?_
          rintro e w' ⟨rfl, rfl⟩
          go_wp2_with fail
          refine (hput _).mono ?_
          rintro e w2 ⟨rfl, hb2⟩
          go_wp2_with fail
          refine (hg2 _).mono ?_
          rintro e w3 ⟨rfl, hb3⟩
          go_wp2_with fail
          go_ret2
          exact ⟨by rw [HO.out, HT.out]; rfl, (hb.trans (hb2.mono hb.size)).trans (hb3.mono (by have := hb.size; have := hb2.size; omega))⟩
    · have hb : inC (vC l).length c = false := by simp [inC]; omega
      rw [hb] at hin
      obtain ⟨e1, e2⟩ := cl_out hb
      have HO := Lib.hid e1
      have HT := Lib.hid e2
      clear e1 e2 hb h hG hsg hvc hvh
      go_enter Tryd.func35, Tryd.ntmps35
      go_wp2_with fail
      refine (h1 _).mono ?_
      rintro e w1 ⟨rfl, hb⟩
      go_wp2_with fail
      refine (boCells_any l _ hl).mono ?_
      rintro e w' ⟨rfl, rfl⟩
      go_wp2_with fail
      refine (hin _).mono ?_
      rintro e w' ⟨rfl, rfl⟩
      go_wp2_with fail
      go_ret2
      exact ⟨by rw [HO.out, HT.out]; rfl, hb⟩
end Go.Proofs.YtndmkbkmfonefadDoor
