/- Joined boards by the model: which are, numbers around. -/
import Derived.Test.YtggjponlgndghaaDoorGS2
import Derived.Test.YtggjponlgndghaaDoorT7
import Derived.Outline
namespace Go.Proofs.YtggjponlgndghaaDoor
open Go.RowKit

/-- Is a text a joined board? -/
def joB (l : List UInt8) : Bool := boGoodM l && (decide ((3 : Int) ≤ (boSizeM l).1) && decide ((3 : Int) ≤ (boSizeM l).2))
set_option maxRecDepth 100000 in
set_option maxHeartbeats 400000 in
theorem joGood_any (l : List UInt8) (w : World) (hl : l.length ≤ 1048576) :
    Calls Tryd.prog 33 #[.string ⟨l.toArray⟩] w fun e w' => e = .returned (.bool (joB l)) ∧ Below w.heap.size w w' := by
  have HG := Lib.hid (fun w => boGood_any l w hl)
  have HS := Lib.hid (fun w => boSize_any l w hl)
  have HJ : Hid (joB l = (boGoodM l && (decide ((3 : Int) ≤ (boSizeM l).1) && decide ((3 : Int) ≤ (boSizeM l).2)))) := rfl
  cases hg : boGoodM l with
  | false =>
    rw [hg] at HG HJ
    clear hg
    go_enter Tryd.func33, Tryd.ntmps33
    go_wp2_with fail
    refine (HG.out _).mono ?_
    rintro e w1 ⟨rfl, hb1⟩
    go_wp2_with fail
    go_ret
    exact ⟨by rw [HJ.out]; rfl, hb1⟩
  | true =>
    rw [hg] at HG HJ
    clear hg
    generalize (boSizeM l).1 = sw at *
    generalize (boSizeM l).2 = sh at *
    go_enter Tryd.func33, Tryd.ntmps33
    go_wp2_with fail
    refine (HG.out _).mono ?_
    rintro e w1 ⟨rfl, hb1⟩
    go_wp2_with fail
    refine (HS.out _).mono ?_
    rintro e w2 ⟨rfl, hb2⟩
    by_cases h3 : (3 : Int) ≤ sw
    · go_wp2_with fail
      go_ret
      exact ⟨by rw [HJ.out, decide_eq_true h3]; rfl, hb1.trans (hb2.mono hb1.size)⟩
    · go_wp2_with fail
      go_ret
      exact ⟨by rw [HJ.out, decide_eq_false (show ¬ (3 : Int) ≤ (sw : Int) by omega)]; rfl, hb1.trans (hb2.mono hb1.size)⟩
theorem tmod_around (n m : Int) (hm : 0 < m) (hm2 : m ≤ 1000) : (wrap64 (n.tmod m + m)).tmod m = n % m := by
  have h1 := Int.tmod_lt_of_pos n hm
  have h2 := Int.lt_tmod_of_pos n hm
  rw [IntWalk.wrap64_in _ ⟨by omega, by omega⟩, Int.tmod_eq_emod_of_nonneg (by omega), Int.add_emod_right, Int.tmod_def, Int.sub_mul_emod_self_left]
set_option maxRecDepth 100000 in
set_option maxHeartbeats 400000 in
/-- A number around, for numbers from -m on. -/
theorem joMod_any (n m : Int) (w : World) (hm : 0 < m) (hm2 : m ≤ 1000) :
    Calls Tryd.prog 57 #[.int .i64 n, .int .i64 m] w fun e w' => e = .returned (.int .i64 (n % m)) ∧ w = w' := by
  go_enter Tryd.func57, Tryd.ntmps57
  go_wp2_with fail
  go_ret
  exact ⟨by rw [← tmod_around n m hm hm2]; rfl, rfl⟩
set_option maxRecDepth 100000 in
set_option maxHeartbeats 400000 in
theorem sIsJoined_any (l : List UInt8) (w : World) (hl : l.length ≤ 1048576) :
    Calls Tryd.prog 11 #[.string ⟨l.toArray⟩] w fun e w' => e = .returned (.bool (joB l)) ∧ Below w.heap.size w w' := by
  have HG := Lib.hid (joGood_any l w hl)
  generalize joB l = b at *
  go_enter Tryd.func11, Tryd.ntmps11
  go_wp2_with fail
  refine HG.out.mono ?_
  rintro e w1 ⟨rfl, hb1⟩
  go_wp2_with fail
  go_ret
  exact ⟨rfl, hb1⟩
end Go.Proofs.YtggjponlgndghaaDoor
