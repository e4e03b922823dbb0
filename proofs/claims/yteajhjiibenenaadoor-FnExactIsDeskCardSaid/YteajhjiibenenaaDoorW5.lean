/- Views: texts of rows, and a cell hidden again, by the program and by the model. -/
import Derived.Test.YteajhjiibenenaaDoorW4
import Derived.Test.YteajhjiibenenaaDoorT5
import Derived.Test.YteajhjiibenenaaDoorW0
import Derived.Outline
namespace Go.Proofs.YteajhjiibenenaaDoor
open Go.RowKit

theorem view_ne47 {c : UInt8} (h : viewSign c = true) : c ≠ 47 := by
  intro q
  subst q
  revert h
  decide
theorem view_text {cells : List UInt8} {W H : Nat} (hW : 1 ≤ W ∧ W ≤ 8) (hH : 1 ≤ H ∧ H ≤ 8) (hn : cells.length = W * H) (hp : ∀ c ∈ cells, viewSign c = true) :
    viewM (textM cells W H) = decide ((hidM cells).length ≤ 14) := by
  obtain ⟨h1, h2, _⟩ := text_grid (p := viewSign) hW hH hn hp (fun c hc => view_ne47 (hp c hc))
  rw [viewM, h1, h2, hid_places, Bool.true_and]
theorem hid_count (cells : List UInt8) : (hidM cells).length = cells.count 63 := by
  rw [← hid_places, places, placesGo_cnt]
theorem Grd.view {l : List UInt8} (h : viewM l = true) : Grd l (vW l) (vH l) (vC l) ∧ (∀ c ∈ vC l, viewSign c = true) := by
  obtain ⟨h1, h2, _⟩ := view_yes h
  have h3 := Grd.of h1
  rw [vW, vH, if_pos h, if_pos h]
  refine ⟨by rw [vC, if_pos h]; exact h3, ?_⟩
  rw [h2]
  obtain ⟨_, _, _, _, _, _, _, f⟩ := grid_facts h1
  exact List.all_eq_true.1 f

/-- Whether a cell may be hidden again; the view then. -/
def clOK (l : List UInt8) (c : Int) : Bool := inC (vC l).length c && !unsB (vC l) c.toNat && !decide ((hidM (vC l)).length = 14)
def clM (l : List UInt8) (c : Int) : List UInt8 := if clOK l c = true then textM ((vC l).set c.toNat 63) (vW l) (vH l) else []
theorem inB_inC (n : Nat) (c : Int) : inB c 0 ((n : Int) - 1) = inC n c := by
  simp only [inB, inC]
  congr 1
  exact decide_eq_decide.2 (by omega)
theorem cl_out {l : List UInt8} {c : Int} (h : inC (vC l).length c = false) : clOK l c = false ∧ clM l c = [] := by
  have e : clOK l c = false := by rw [clOK, h]; rfl
  exact ⟨e, by rw [clM, e]; rfl⟩
theorem cl_uns {l : List UInt8} {c : Int} (h : unsB (vC l) c.toNat = true) : clOK l c = false ∧ clM l c = [] := by
  have e : clOK l c = false := by rw [clOK, h]; simp
  exact ⟨e, by rw [clM, e]; rfl⟩
theorem cl_full {l : List UInt8} {c : Int} (h : (hidM (vC l)).length = 14) : clOK l c = false ∧ clM l c = [] := by
  have e : clOK l c = false := by rw [clOK, h]; simp
  exact ⟨e, by rw [clM, e]; rfl⟩
theorem cl_yes {l : List UInt8} {k : Nat} (h1 : k < (vC l).length) (h2 : unsB (vC l) k = false) (h3 : (hidM (vC l)).length ≠ 14) : clOK l k = true ∧ clM l k = textM ((vC l).set k 63) (vW l) (vH l) := by
  have e : clOK l k = true := by simp [clOK, inC, h1, h2, h3]
  exact ⟨e, by rw [clM, e]; rfl⟩
theorem set_count {cells : List UInt8} {k : Nat} (hk : k < cells.length) (h : unsB cells k = false) : (hidM (cells.set k 63)).length = (hidM cells).length + 1 := by
  rw [hid_count, hid_count, List.count_set hk]
  have : (cells[k] == 63) = false := by simpa [unsB, List.getD, hk] using h
  simp [this]
theorem set_signs {cells : List UInt8} (k : Nat) (h : ∀ c ∈ cells, viewSign c = true) : ∀ c ∈ cells.set k 63, viewSign c = true := by
  intro c hc
  rcases List.mem_or_eq_of_mem_set hc with h1 | h1
  · exact h c h1
  · rw [h1]; rfl


end Go.Proofs.YteajhjiibenenaaDoor
