/- The law FnExactDoesFit holds at every argument. -/
import Derived.Test.YthlbplmghjaeoaaDoorB9
import Derived.Test.YthlbplmghjaeoaaDoorA9
import Derived.Outline
namespace Go.Proofs.YthlbplmghjaeoaaDoor
open Go.RowKit

set_option maxRecDepth 100000 in
set_option maxHeartbeats 1600000 in
theorem law_DoesFit (c : Clu) (l : List UInt8) (w : World) (hM : HasMax w) (hs : l.length ≤ 9223372036854775807) :
    Calls Tryd.prog 3 #[valC c, .string ⟨l.toArray⟩] w fun e w' => e = .returned (.bool true) ∧ Below w.heap.size w w' := by
  have hb : Below w.heap.size w (w.alloc (.cells #[.int .i64 c.k, .int .i64 c.a, .int .i64 c.b] 23)) := (Below.refl _ _).alloc (Nat.le_refl _) _
  by_cases hl : l.length ≤ 1048576
  · have HG := Lib.hid (heap_alloc_new w (.cells #[.int .i64 c.k, .int .i64 c.a, .int .i64 c.b] 23))
    have HTC := Lib.hid (fun w => toClue_any c w)
    have HS := Lib.hid (fun w => sDoesFit_any c l w hl)
    have HI := Lib.hid (fun w hM => iDoesFit_any c l w hM hl)
    have hd : ∀ b : Bool, (b != b) = false := fun b => by cases b <;> rfl
    have HM := Lib.hid hM
    unfold valC at *
    clear hM
    go_enter Tryd.func3, Tryd.ntmps3
    go_wp2_with fail
    generalize w.alloc (.cells #[.int .i64 c.k, .int .i64 c.a, .int .i64 c.b] 23) = w0 at *
    refine (HTC.out _).mono ?_
    rintro e w1 ⟨rfl, hb1⟩
    have hB1 := hb.trans (hb1.mono hb.size)
    have HG1 := Lib.hid ((hb1.block _ (block_lt HG.out)).trans HG.out)
    clear hb hb1 HG
    go_wp2_with fail
    refine (HS.out _).mono ?_
    rintro e w2 ⟨rfl, hb2⟩
    have hB2 := hB1.trans (hb2.mono hB1.size)
    have HG2 := Lib.hid ((hb2.block _ (block_lt HG1.out)).trans HG1.out)
    clear hB1 hb2 HG1
    have f0 := cell_of_block HG2.out 0
    have f1 := cell_of_block HG2.out 1
    have f2 := cell_of_block HG2.out 2
    simp at f0 f1 f2
    go_wp2_with fail
    refine (HTC.out _).mono ?_
    rintro e w3 ⟨rfl, hb3⟩
    have hB3 := hB2.trans (hb3.mono hB2.size)
    clear hB2 hb3 HG2 f0 f1 f2
    go_wp2_with fail
    refine (HI.out _ (HM.out.later hB3)).mono ?_
    rintro e w4 ⟨rfl, hb4⟩
    have hB4 := hB3.trans (hb4.mono hB3.size)
    clear hB3 hb4
    go_wp2_with fail
    go_ret
    exact ⟨rfl, hB4⟩
  · have hl' : 1048576 < l.length := by omega
    clear hl
    unfold valC
    go_enter Tryd.func3, Tryd.ntmps3
    go_wp2_with fail
    go_ret
    exact ⟨rfl, hb⟩
end Go.Proofs.YthlbplmghjaeoaaDoor
