/- Desks: what a walk sees of one that comes in; the law's own helpers; IsDesk by both sides. -/
import Derived.Test.YteajhjiibenenaaDoorWN
import Derived.Lib.SmallJoins
import Derived.Deep.Strs
import Derived.Deep.Slices
import Derived.Laws.ResultCell
import Derived.Outline
namespace Go.Proofs.YteajhjiibenenaaDoor
open Go.RowKit Go.WideShapes Go.ChangeShapes Go.Deep Go.Joins

theorem oneDesk : Tryd.prog.cellsOf 48 = 2 := by kernel_rfl
set_option maxRecDepth 100000 in
theorem open_desk {H : Type} {enc : TypeId × Value → H} {W : World} {base : Nat} {sp : Nat → Bool} {held : Bool} {r : _root_.Go.Reach} {b0 : Nat} {v : Value} {d : DataW H} {p : List MemPlace} (hv : Value.okWide Tryd.prog W r b0 48 v) (h : DataW.Trod enc Tryd.prog W base sp held 48 v d p) :
    ∃ l m : List UInt8, v = .agg #[.string ⟨l.toArray⟩, .string ⟨m.toArray⟩] ∧ l.length ≤ 9223372036854775807 ∧ m.length ≤ 9223372036854775807 := by
  obtain ⟨v0, v1, y0, y1, n, rfl, _, _, h0, h1⟩ := open_agg2 Tryd.underlying48 (by kernel_rfl) oneDesk hv h
  obtain ⟨a, ha, _, sa⟩ := DataW.trod_string Tryd.underlying9 h0
  obtain ⟨b, hb, _, sb⟩ := DataW.trod_string Tryd.underlying9 h1
  simp at ha hb
  subst ha; subst hb
  unfold maxLen at sa sb
  have ea : a.data.toList.length = a.size := by rw [Array.length_toList]; rfl
  have eb : b.data.toList.length = b.size := by rw [Array.length_toList]; rfl
  exact ⟨a.data.toList, b.data.toList, by simp, by omega, by omega⟩
theorem blkD (w : World) (o p q : Obj) : (((w.alloc o).alloc p).alloc q).heap[w.heap.size + 1]? = some p := by
  rw [Below.heap_alloc _ _ _ (by simp)]
  have h := heap_alloc_new (w.alloc o) p
  rw [World.size_alloc] at h
  exact h
theorem infDesk : (Tryd.prog.info? 51).map (·.size) = some 2 := by kernel_rfl
set_option maxRecDepth 100000 in
set_option maxHeartbeats 800000 in
theorem toDesk_any (l m : List UInt8) (w : World) :
    Calls Tryd.prog 24 #[.agg #[.string ⟨l.toArray⟩, .string ⟨m.toArray⟩]] w fun e w' => e = .returned (.agg #[.string ⟨l.toArray⟩, .string ⟨m.toArray⟩]) ∧ Below w.heap.size w w' := by
  have hb : Below w.heap.size w (((w.alloc (.cells #[.string ⟨l.toArray⟩, .string ⟨m.toArray⟩] 48)).alloc (.cells #[.string ⟨l.toArray⟩, .string ⟨m.toArray⟩] 51)).alloc (.cells #[.string ⟨l.toArray⟩, .string ⟨m.toArray⟩] 51)) := (((Below.refl _ _).alloc (Nat.le_refl _) _).alloc (by simp) _).alloc (by simp; omega) _
  go_enter Tryd.func24, Tryd.ntmps24
  go_wp2_with fail
  have hB := blkD w (.cells #[.string ⟨l.toArray⟩, .string ⟨m.toArray⟩] 48) (.cells #[.string ⟨l.toArray⟩, .string ⟨m.toArray⟩] 51) (.cells #[.string ⟨l.toArray⟩, .string ⟨m.toArray⟩] 51)
  exact bodyPost_ret (results_cell_row rfl _ _ _ _ _ _ _ rfl hB Tryd.underlying51 rfl infDesk) rfl ⟨rfl, hb⟩
set_option maxRecDepth 100000 in
set_option maxHeartbeats 800000 in
theorem szDesk_yes (l m : List UInt8) (w : World) (h : l.length + m.length ≤ 1048576) :
    Calls Tryd.prog 22 #[.agg #[.string ⟨l.toArray⟩, .string ⟨m.toArray⟩], .int .i64 1048576] w fun e w' => e = .returned (.int .i64 (1048576 - l.length - m.length)) ∧ Below w.heap.size w w' := by
  have wr1 : IntKind.i64.wrap (1048576 - (l.length : Int)) = 1048576 - (l.length : Int) := IntWalk.i64_in _ ⟨by omega, by omega⟩
  have wr2 : IntKind.i64.wrap (1048576 - (l.length : Int) - (m.length : Int)) = 1048576 - (l.length : Int) - (m.length : Int) := IntWalk.i64_in _ ⟨by omega, by omega⟩
  have c1 : ¬ (1048576 - (l.length : Int) < 0) := by omega
  have c2 : ¬ (1048576 - (l.length : Int) - (m.length : Int) < 0) := by omega
  go_enter Tryd.func22, Tryd.ntmps22
  go_wp2_with fail
  go_ret
  exact ⟨rfl, (Below.refl _ _).alloc (Nat.le_refl _) _⟩
set_option maxRecDepth 100000 in
set_option maxHeartbeats 800000 in
theorem szDesk_no (l m : List UInt8) (w : World) (h : 1048576 < l.length + m.length) (hl : l.length ≤ 9223372036854775807) (hm : m.length ≤ 9223372036854775807) :
    Calls Tryd.prog 22 #[.agg #[.string ⟨l.toArray⟩, .string ⟨m.toArray⟩], .int .i64 1048576] w fun e w' => e = .returned (.int .i64 (-1)) ∧ Below w.heap.size w w' := by
  have wr1 : IntKind.i64.wrap (1048576 - (l.length : Int)) = 1048576 - (l.length : Int) := IntWalk.i64_in _ ⟨by omega, by omega⟩
  by_cases h1 : 1048576 - (l.length : Int) < 0
  · go_enter Tryd.func22, Tryd.ntmps22
    go_wp2_with fail
    go_ret
    exact ⟨rfl, (Below.refl _ _).alloc (Nat.le_refl _) _⟩
  · have wr2 : IntKind.i64.wrap (1048576 - (l.length : Int) - (m.length : Int)) = 1048576 - (l.length : Int) - (m.length : Int) := IntWalk.i64_in _ ⟨by omega, by omega⟩
    have c2 : 1048576 - (l.length : Int) - (m.length : Int) < 0 := by omega
    go_enter Tryd.func22, Tryd.ntmps22
    go_wp2_with fail
    go_ret
    exact ⟨rfl, (Below.refl _ _).alloc (Nat.le_refl _) _⟩
set_option maxRecDepth 100000 in
set_option maxHeartbeats 800000 in
theorem coGood_any (l m : List UInt8) (w : World) (hl : l.length ≤ 1048576) (hm : m.length ≤ 1048576) :
    Calls Tryd.prog 50 #[.agg #[.string ⟨l.toArray⟩, .string ⟨m.toArray⟩]] w fun e w' => e = .returned (.bool (dfOK m l && dfM m l)) ∧ Below w.heap.size w w' := by
  have HC := Lib.hid (fun w => sDoesFitView_any m l w hm hl)
  have hb : Below w.heap.size w (w.alloc (.cells #[.string ⟨l.toArray⟩, .string ⟨m.toArray⟩] 51)) := (Below.refl _ _).alloc (Nat.le_refl _) _
  cases h : dfOK m l <;>
  · rw [h] at HC
    clear h
    go_enter Tryd.func50, Tryd.ntmps50
    go_wp2_with fail
    refine (HC.out _).mono ?_
    rintro e w1 ⟨rfl, hb1⟩
    have hB := hb.trans (hb1.mono hb.size)
    clear hb hb1
    go_wp2_with fail
    go_ret
    exact ⟨rfl, hB⟩
set_option maxRecDepth 100000 in
set_option maxHeartbeats 800000 in
theorem sIsDesk_any (l m : List UInt8) (w : World) (hl : l.length ≤ 1048576) (hm : m.length ≤ 1048576) :
    Calls Tryd.prog 23 #[.agg #[.string ⟨l.toArray⟩, .string ⟨m.toArray⟩]] w fun e w' => e = .returned (.bool (dfOK m l && dfM m l)) ∧ Below w.heap.size w w' := by
  have HC := Lib.hid (fun w => coGood_any l m w hl hm)
  have hb : Below w.heap.size w (w.alloc (.cells #[.string ⟨l.toArray⟩, .string ⟨m.toArray⟩] 51)) := (Below.refl _ _).alloc (Nat.le_refl _) _
  generalize (dfOK m l && dfM m l) = q at *
  go_enter Tryd.func23, Tryd.ntmps23
  go_wp2_with fail
  refine (HC.out _).mono ?_
  rintro e w1 ⟨rfl, hb1⟩
  have hB := hb.trans (hb1.mono hb.size)
  clear hb hb1
  go_wp2_with fail
  go_ret
  exact ⟨rfl, hB⟩
set_option maxRecDepth 100000 in
set_option maxHeartbeats 800000 in
theorem iIsDesk_any (l m : List UInt8) (w : World) (hM : HasMax w) (hl : l.length ≤ 1048576) (hm : m.length ≤ 1048576) :
    Calls Tryd.prog 25 #[.agg #[.string ⟨l.toArray⟩, .string ⟨m.toArray⟩]] w fun e w' => e = .returned (.bool (dfOK m l && dfM m l)) ∧ Below w.heap.size w w' := by
  have HC := Lib.hid (fun w hM => iDoesFitView_any m l w hM hm hl)
  have hb : Below w.heap.size w (w.alloc (.cells #[.string ⟨l.toArray⟩, .string ⟨m.toArray⟩] 51)) := (Below.refl _ _).alloc (Nat.le_refl _) _
  have hM1 := hM.later hb
  cases h : dfOK m l <;>
  · rw [h] at HC
    clear h
    go_enter Tryd.func25, Tryd.ntmps25
    go_wp2_with fail
    refine (HC.out _ hM1).mono ?_
    rintro e w1 ⟨rfl, hb1⟩
    have hB := hb.trans (hb1.mono hb.size)
    clear hb hb1
    go_wp2_with fail
    go_ret
    exact ⟨rfl, hB⟩
end Go.Proofs.YteajhjiibenenaaDoor
