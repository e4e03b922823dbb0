/- Views: the program reads a view. -/
import Derived.Test.YthlbplmghjaeoaaDoorW2
import Derived.Deep.RegionHeld3
import Derived.Deep.DeepCutAuto
import Derived.Outline
namespace Go.Proofs.YthlbplmghjaeoaaDoor
open Go.RowKit

/-- The hidden cells of a view's cells. -/
def unsB (cells : List UInt8) (k : Nat) : Bool := cells.getD k 0 == 63
def hidM (cells : List UInt8) : List Nat := filtM (unsB cells) cells.length
theorem hidM_lt (cells : List UInt8) (x : Nat) (h : x ∈ hidM cells) : x < cells.length := by
  rw [hidM, filtM, List.mem_filter, List.mem_range] at h
  exact h.1
theorem hid_places (cells : List UInt8) : places 63 cells = hidM cells := by
  refine rise_ext (placesGo_rise 63 cells 0).1 (List.Pairwise.filter _ List.pairwise_lt_range) (fun x => ?_)
  rw [places, mem_placesGo, hidM, filtM, List.mem_filter, List.mem_range]
  constructor
  · rintro ⟨_, h⟩
    rw [Nat.sub_zero] at h
    obtain ⟨hx, he⟩ := List.getElem?_eq_some_iff.1 h
    exact ⟨hx, by simp [unsB, List.getD, hx, he]⟩
  · rintro ⟨hx, h⟩
    refine ⟨Nat.zero_le _, ?_⟩
    rw [Nat.sub_zero, List.getElem?_eq_getElem hx]
    simpa [unsB, List.getD, hx] using h

set_option maxRecDepth 100000 in
theorem isUnseen_any (W H : Nat) (a : Option Addr) (cells : List UInt8) (cap : Nat) (k : Nat) (w : World) (hat : At w a (byts cells)) (hk : k < cells.length) (_hl : cells.length ≤ 64) :
    Calls Tryd.prog 92 #[.agg #[.int .i64 W, .int .i64 H, .slice a cells.length cap, .bool false], .int .i64 k] w fun e w' => e = .returned (.bool (unsB cells k)) ∧ Below w.heap.size w w' := by
  obtain ⟨b, off, rfl, hc⟩ := byts_at hat k hk
  have hbl := World.block_lt_of_cell? w _ hc
  have hc' : ∀ o, (w.alloc o).cell? ⟨b, off + k, none⟩ = some (.int .u8 (cells[k].toNat : Int)) := fun o => by rw [cell_new w o b hbl]; exact hc
  have HU := Lib.hid (show unsB cells k = ((cells[k].toNat : Int) == 63) by rw [show ((63 : Int)) = ((63 : Nat) : Int) from rfl, byte_beq cells[k] 63 (by omega)]; simp [unsB, List.getD, hk])
  go_enter Tryd.func92, Tryd.ntmps92
  go_wp2_with fail
  go_ret
  exact ⟨by rw [HU.out]; rfl, (Below.refl _ _).alloc (Nat.le_refl _) _⟩
theorem enters_isUnseen (args : Array Value) (w' : World) : (callFunc 92 args).run Tryd.prog w' = .ok (.enter 92 args) w' := by
  go_simp

/-- What is owned stays where another block alone is touched. -/
theorem Owns.touchNe {b B e : Nat} {w w' : World} {v : Value} {xs : List Value} (h : Owns w B e v xs) (ht : Touch b w w') (hb : ∀ j, v.ownBlock = some j → j ≠ b) : Owns w' B e v xs := by
  obtain ⟨h1, h2⟩ := h
  refine ⟨h1, ?_⟩
  rcases h2 with h2 | ⟨g, cap, cur, hv, hg, hh, r⟩
  · exact .inl h2
  · have hne : g ≠ b := hb g (by rw [hv]; rfl)
    exact .inr ⟨g, cap, cur, hv, hg, by rw [ht.block g (by have := block_lt hh; omega) (by simpa using hne)]; exact hh, r⟩
theorem blockAwayV {w : World} {g b : Nat} (h : b ≠ g) (j : Nat) (v : Value) : (w.setCell ⟨g, j, none⟩ v).heap[b]? = w.heap[b]? := by
  simp [World.setCell, Array.getElem?_modify, Ne.symm h]
theorem toDrew {B : Nat} {w w' : World} (h : Below B w w') : Below B w w'.drew := ⟨h.os, h.tape, h.output, h.size, h.block⟩
theorem Below.setCell6 {B g : Nat} {w w' : World} (h : Below B w w') (hg : B ≤ g) (v0 v1 v2 v3 v4 v5 : Value) : Below B w ((((((w'.setCell ⟨g, 0, none⟩ v0).setCell ⟨g, 1, none⟩ v1).setCell ⟨g, 2, none⟩ v2).setCell ⟨g, 3, none⟩ v3).setCell ⟨g, 4, none⟩ v4).setCell ⟨g, 5, none⟩ v5) :=
  h.trans (((((((Below.set 0 _).trans (Below.set 1 _)).trans (Below.set 2 _)).trans (Below.set 3 _)).trans (Below.set 4 _)).trans (Below.set 5 _)).mono hg)



/-- What lies ahead of a block stays where that block alone is touched. -/
theorem At.touchFar {V : Nat} {w w' : World} {a : Option Addr} {xs : List Value} (h : At w a xs) (ht : Touch V w w') (hb : 0 < xs.length → ∃ b off, a = some ⟨b, off, none⟩ ∧ b < V) (hV : V < w.heap.size) : At w' a xs := by
  intro j hj
  obtain ⟨b, off, rfl, hc⟩ := h j hj
  obtain ⟨b', off', he, hlt⟩ := hb (by omega)
  simp only [Option.some.injEq, Addr.mk.injEq, and_true] at he
  obtain ⟨rfl, rfl⟩ := he
  refine ⟨b, off, rfl, ?_⟩
  rw [← hc]
  have := ht.block b (by omega) (by simp; omega)
  simp [World.cell?, this]


end Go.Proofs.YthlbplmghjaeoaaDoor
